/-
  Walk: ScanLoads: a scanner that is loaded goes on as the one whose bytes and count it has.
-/
import Derived.Test.YtoechlmahckchaaScDuo
import Derived.Test.YtoechlmahckchaaScLoR
namespace Go.Proofs.Ytoechlmahckchaa
open Go.RowKit

theorem place_in (a : Int) (n : Nat) (h0 : 0 < n) (hn : n ≤ 140737488355328) : ∃ k : Nat, k < n ∧ wrap64 ((IntKind.u64.wrap a).tmod (n : Int)) = k := by
  have h1 : 0 ≤ IntKind.u64.wrap a := by rw [IntKind.wrap_u64]; omega
  have h2 := Int.tmod_nonneg (n : Int) h1
  have h3 := Int.tmod_lt_of_pos (IntKind.u64.wrap a) (show (0 : Int) < n by omega)
  obtain ⟨k, hk⟩ := Int.eq_ofNat_of_zero_le h2
  rw [hk] at h3 ⊢
  exact ⟨k, by omega, by unfold wrap64; omega⟩

set_option maxRecDepth 100000 in
set_option maxHeartbeats 4000000 in
theorem scanloads_any (F : ByteArray) (cu : Int) (R : ByteArray) (w : World) (hFs : F.size ≤ 1048576) (_ : (Lit.int .i64 cu).wf = true) (hRs : R.size ≤ 1048576) :
    Calls Try.prog 6 #[.string F, .int .i64 cu, .string R] w fun e w' => e = .returned (.bool true) ∧ Below w.heap.size w w' := by
  obtain ⟨k, hk, hka⟩ := place_in cu (F.size + 1) (by omega) (by omega)
  have hka2 : wrap64 ((IntKind.u64.wrap cu).tmod ((F.size : Int) + 1)) = (k : Int) := hka
  clear hka
  have HA := Lib.hid (fun w : World => sawake_any w)
  obtain ⟨os1, r1, n1, h1⟩ : ∃ os r n, runL false (F.data.toList.take k) 0 = (os, r, n) := ⟨_, _, _, rfl⟩
  have f1 := runL_fits false (F.data.toList.take k).length (F.data.toList.take k) 0 (Nat.le_refl _) (by omega)
  rw [h1] at f1
  have hr1 : r1.length ≤ 63 := (look_two f1.1).2
  have hn1 : n1 ≤ 1073741823 := f1.2.2.1
  have hl1 : (lookL r1).1 = 2 := f1.1
  obtain ⟨os2, r2, n2, h2⟩ : ∃ os r n, runL false (r1 ++ F.data.toList.drop k) n1 = (os, r, n) := ⟨_, _, _, rfl⟩
  have f2 := runL_fits false (r1 ++ F.data.toList.drop k).length (r1 ++ F.data.toList.drop k) n1 (Nat.le_refl _) hn1
  rw [h2] at f2
  have hr2 : r2.length ≤ 63 := (look_two f2.1).2
  have hn2 : n2 ≤ 1073741823 := f2.2.2.1
  have ho2 : os2.length ≤ 10000000 := by
    have := f2.2.2.2.1
    simp only [List.length_append, List.length_drop, Array.length_toList] at this
    have : F.data.size = F.size := rfl
    omega
  obtain ⟨os3, r3, n3, h3⟩ : ∃ os r n, runL false (r2 ++ R.data.toList) n2 = (os, r, n) := ⟨_, _, _, rfl⟩
  have f3 := runL_fits false (r2 ++ R.data.toList).length (r2 ++ R.data.toList) n2 (Nat.le_refl _) hn2
  rw [h3] at f3
  have hr3 : r3.length ≤ 63 := (look_two f3.1).2
  have hn3 : n3 ≤ 1073741823 := f3.2.2.1
  have ho3 : os3.length ≤ 10000000 := by
    have := f3.2.2.2.1
    simp only [List.length_append, Array.length_toList] at this
    have : R.data.size = R.size := rfl
    omega
  have f4 := (runL_fits true r3.length r3 n3 (Nat.le_refl _) hn3).2.2.2.1
  have ho4 : (allL r3 n3).length ≤ 10000000 := by
    have h1 : ∀ b, (tellB b).length ≤ 1 := fun b => by unfold tellB; split <;> simp
    have h2 := h1 (runL true r3 n3).2.2
    unfold allL
    rw [List.length_append]
    omega
  have HW1 := Lib.hid (fun (g : Nat) (w : World) h => swrite_any g [] 0 (F.extract 0 k) w h (by rw [ByteArray.size_extract]; simp; omega) (by decide) os1 r1 n1 (by rw [List.nil_append, txt_cut]; exact h1))
  have HWa := Lib.hid (fun (g : Nat) (w : World) h => waits_any g r1 n1 w h (by omega))
  have HBd := Lib.hid (fun (g : Nat) (w : World) h => badn_any g r1 n1 w h)
  have HLo := Lib.hid (fun (w : World) => sload_ok (txt r1) n1 w (by rw [txt_size]; omega) ⟨by omega, hl1⟩)
  have HW2 := Lib.hid (fun (g : Nat) (w : World) h => swrite_any g r1 n1 (F.extract k F.size) w h (by rw [ByteArray.size_extract]; omega) hn1 os2 r2 n2 (by rw [txt_rest]; exact h2))
  have HW3 := Lib.hid (fun (g : Nat) (w : World) h => swrite_any g r2 n2 R w h (by omega) hn2 os3 r3 n3 h3)
  have HC := Lib.hid (fun (g : Nat) (w : World) h => sclose_any g r3 n3 w h (by omega) hn3 _ rfl)
  generalize allL r3 n3 = os4 at HC ho4
  have HR := Lib.hid (And.intro hr2 (And.intro hn2 hr1))
  clear h1 f1 hl1 h2 f2 h3 f3 f4 hr1 hn1 hr2 hn2 hr3 hn3
  go_enter Try.func6, Try.ntmps6
  go_wp2_with fail
  refine (HA.out _).mono ?_; rintro e w1 ⟨rfl, b1⟩
  have s1 := b1.size
  go_wp2_with fail
  refine (new_any _).mono ?_; rintro e w2 ⟨rfl, x2, b2⟩
  have k2 := b1.trans (b2.mono s1)
  have s2 := k2.size
  clear b1 b2 HA
  go_wp2_with fail
  refine (HW1.out _ _ x2).mono ?_; rintro e w3 ⟨A1, c1, rfl, _, x3, g3⟩
  have k3 := below_wrote k2 g3 s2 (fun k hk => by injection hk with hk; omega)
  have s3 := k3.size
  have l3 := x3.lt
  clear x2 k2 g3 HW1
  go_wp2_with fail
  refine (HWa.out _ _ x3).mono ?_; rintro e w4 ⟨rfl, b4⟩
  have x4 := x3.below b4 l3
  have k4 := k3.trans (b4.mono s3)
  have s4 := k4.size
  have l4 := x4.lt
  clear x3 k3 b4 HWa
  go_wp2_with fail
  refine (HBd.out _ _ x4).mono ?_; rintro e w5 ⟨rfl, rfl⟩
  go_wp2_with fail
  refine (HLo.out _).mono ?_; rintro e w6 ⟨y, rfl, y6, hy, b6⟩
  have y6' : Has w6 y 58 (scC r1 n1) := y6
  have H6 : Hid (DuoS w w1.heap.size 58 r1 n1 y 58 r1 n1 w6) := Lib.hid ⟨k4.trans (b6.mono s4), Nat.le_trans s4 b6.size, x4.below b6 l4, y6', by omega, s1, by omega⟩
  clear x4 k4 b6 y6 y6' HBd HLo
  go_upto_region 11 with (go_at_call 12; refine (num_any _ _).mono ?_; rintro e w' ⟨rfl, rfl⟩)
  refine lo11_any (F := F) (os := os2) (r1 := r1) (r2 := r2) (n1 := n1) (n2 := n2) (B := w6.heap.size) (x := w1.heap.size) (y := y) (q := k) ⟨rfl, rfl, rfl, rfl, rfl, rfl, H6.out.sx.lt, H6.out.sy.lt, H6.out.ne, by omega, by omega, by have := HR.out.1; omega, H6.out.sx, H6.out.sy, fun g w h => HW2.out g w h⟩ (by kernel_rfl) ?_
  intro A48 c48 A53 c53 w7 hI _ _
  have H7 : Hid (DuoS w w1.heap.size 58 r2 n2 y 58 r2 n2 w7) := Lib.hid (H6.out.but hI.gr (fun g hg => by
    simp only [List.mem_cons, List.not_mem_nil, or_false] at hg
    rcases hg with rfl | rfl
    · exact H6.out.nx
    · exact H6.out.ny) hI.st.1 hI.st.2)
  clear hI H6 HW2
  simp only [putAll, Act.put, List.setIfInBounds_toArray, List.set_cons_succ, List.set_cons_zero, List.drop_succ_cons, List.drop_zero]
  go_wp2_with fail
  refine (HW3.out _ _ H7.out.sx).mono ?_; rintro e w8 ⟨A3, c3, rfl, p3, x8, g8⟩
  have H8 := Lib.hid (And.intro (H7.out.wroteX x8 g8) p3)
  clear p3 x8 g8 H7
  go_wp2_with fail
  refine (HW3.out _ _ H8.out.1.sy).mono ?_; rintro e w9 ⟨A4, c4, rfl, p4, y9, g9⟩
  have H9 := Lib.hid (And.intro (H8.out.1.wroteY y9 g9) (And.intro (H8.out.2.grow g9 (.inr (H8.out.2.apart H8.out.1.sy (by decide)))).ops p4.ops))
  clear p4 y9 g9 H8 HW3
  go_wp2_with fail
  refine (sameops_any _ _ _ _ _ os3 _ H9.out.2.1 H9.out.2.2 (by omega)).mono ?_; rintro e w10 ⟨rfl, b10⟩
  have H10 := Lib.hid (H9.out.1.below b10)
  clear b10 H9
  go_wp2_with fail
  refine (HC.out _ _ H10.out.sx).mono ?_; rintro e w11 ⟨A5, c5, rfl, p5, x11, g11⟩
  have H11 := Lib.hid (And.intro (H10.out.wroteX x11 g11) p5)
  clear p5 x11 g11 H10
  go_wp2_with fail
  refine (HC.out _ _ H11.out.1.sy).mono ?_; rintro e w12 ⟨A6, c6, rfl, p6, y12, g12⟩
  have H12 := Lib.hid (And.intro (H11.out.1.wroteY y12 g12) (And.intro (H11.out.2.grow g12 (.inr (H11.out.2.apart H11.out.1.sy (by decide)))).ops p6.ops))
  clear p6 y12 g12 H11 HC
  go_wp2_with fail
  refine (sameops_any _ _ _ _ _ os4 _ H12.out.2.1 H12.out.2.2 (by omega)).mono ?_; rintro e w13 ⟨rfl, b13⟩
  have H13 := Lib.hid (H12.out.1.below b13)
  clear b13 H12
  go_wp2_with fail
  go_ret
  exact ⟨rfl, H13.out.keep⟩

end Go.Proofs.Ytoechlmahckchaa

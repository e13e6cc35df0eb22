/-
  Walk: slices.Repeat of one number, one to eight times.
-/
import Derived.Test.YtgibmcljlaoahaaMkRepP
import Derived.Lib.Hide
import Derived.Deep.QuietTactic
import Derived.Deep.RegionLaw
import Derived.Deep.OwnRows
import Derived.Deep.MidRow
namespace Go.Proofs.Ytgibmcljlaoahaa
open Go.RowKit

theorem Try.rpInfo : (Try.prog.info? 3).map (fun i => (i.zero, i.size, i.bytes)) = some (some (.int .i64 0), 1, 8) := by kernel_rfl
theorem rp_parts : ∃ i, Try.prog.info? 3 = some i ∧ i.zero = some (.int .i64 0) ∧ i.size = 1 ∧ i.bytes = 8 := info_parts Try.rpInfo
/-- So many cells of the new row are filled. -/
structure RpS (z : Int) (n : Nat) (w : World) (g m : Nat) (wr : World) : Prop where
  row : Has wr g 3 (partL z n m).toArray
  keep : Below w.heap.size w wr
  far : w.heap.size ≤ g
theorem RpS.drew {z : Int} {n : Nat} {w : World} {g m : Nat} {wr : World} (h : RpS z n w g m wr) : RpS z n w g m wr.drew := ⟨h.row, h.keep.drew, h.far⟩
theorem RpS.cellAt {z : Int} {n : Nat} {w : World} {g m : Nat} {wr : World} (h : RpS z n w g m wr) {j : Nat} (hj : j < m) : wr.cell? ⟨g, j, none⟩ = some (.int .i64 z) := by
  rw [h.row.cell j]
  simpa using partL_get z (n := n) hj
theorem rp_copy {z : Int} {n : Nat} {w : World} {g m : Nat} {wr : World} (h : RpS z n w g m wr) (dLen dCap sLen sCap k : Nat) (ad : Addr) (hk : k = Nat.min sLen dLen) (hmk : m + k ≤ n) (hsrc : ∀ j, j < k → wr.cell? (ad.add j) = some (.int .i64 z)) :
    ∃ w2, (Builtin.copy_ #[39, 39] 3 #[.slice (some ⟨g, m, none⟩) dLen dCap, .slice (some ad) sLen sCap]).run Try.prog wr = .ok (goInt k) w2 ∧ RpS z n w g (m + k) w2 := by
  obtain ⟨i0, hi, _, hs0, _⟩ := rp_parts
  have hr := run_copy_row (P := Try.prog) wr 39 39 3 3 g m dLen dCap ad sLen sCap (partL z n m).toArray 3 (List.replicate k (.int .i64 z)) Try.underlying39 (by rw [hi]; simp [hs0]) h.row (by rw [List.length_replicate]; exact hk)
    (fun j v hv => by
      have hj : j < k := by have := (List.getElem?_eq_some_iff.1 hv).1; simpa using this
      have e : v = .int .i64 z := by simpa [hj] using hv.symm
      rw [e]; exact hsrc j hj) (by rw [List.length_replicate, List.size_toArray, partL_len z (by omega)]; exact hmk) (fun v hv => by
      obtain ⟨_, rfl⟩ := List.mem_replicate.1 hv
      rfl)
  rw [List.length_replicate] at hr
  refine ⟨_, hr, ?_, below_row h.keep h.far _, h.far⟩
  have e := partL_more z (n := n) (m := m) (k := k) hmk
  unfold splice at e
  rw [List.length_replicate] at e
  rw [← e, ← List.append_assoc]
  exact h.row.row _
/-- .. as one step of a region that draws. -/
theorem rp_step {ops : Array Oper} {o : Oper} {a : Act} {wr : World} {K : Act → World → Prop} {Q : Exit → Act → World → Prop} {E : Prop} (hg : o.guard = none) (d x : Operand)
    (hop : o.op = Op.call { callee := Callee.builtin Builtin.copy, args := #[d, x], argTypes := #[39, 39] }) (hty : o.type = 3) {z : Int} {n : Nat} {w : World} {g m : Nat} (h : RpS z n w g m wr) (dLen dCap sLen sCap k : Nat) (ad : Addr)
    (hd : a.eval d = .slice (some ⟨g, m, none⟩) dLen dCap) (hx : a.eval x = .slice (some ad) sLen sCap) (hk : k = Nat.min sLen dLen) (hmk : m + k ≤ n) (hsrc : ∀ j, j < k → wr.cell? (ad.add j) = some (.int .i64 z))
    (hK : ∀ w2, Hid (RpS z n w g (m + k) w2) → K (a.put o.dst (goInt k)) w2) : if Region.wanted o (yielded ops a.tmps) = true then Oper.wp Try.prog o a wr K Q else E := by
  have hw : Region.wanted o (yielded ops a.tmps) = true := by simp [Region.wanted, hg]
  obtain ⟨w2, hr, h2⟩ := rp_copy h dLen dCap sLen sCap k ad hk hmk hsrc
  rw [if_pos hw]
  unfold Oper.wp
  simp [execOp, hop, hty, resolve, invoke, builtin, hd, hx, hr, Result.andThen]
  exact hK _ (Lib.hid h2)

set_option maxRecDepth 100000 in
set_option maxHeartbeats 4000000 in
theorem srep_any (z : Int) (b n : Nat) (w : World) (h1 : 1 ≤ n ∧ n ≤ 8) (hz : w.cell? ⟨b, 0, none⟩ = some (.int .i64 z)) :
    Calls Try.prog 18 #[.slice (some ⟨b, 0, none⟩) 1 1, .int .i64 n] w fun e w' => ∃ g, e = .returned (.slice (some ⟨g, 0, none⟩) n n) ∧ w.heap.size ≤ g ∧ Has w' g 3 (ints (List.replicate n z)) ∧ Below w.heap.size w w' := by
  obtain ⟨i0, hi, hz0, hs0, hy0⟩ := rp_parts
  have hnn : ¬ (n : Int) < 0 := by omega
  have hw1 : IntKind.u64.wrap (n : Int) = n := by have e : IntKind.u64.wrap (n : Int) = (n : Int) % 18446744073709551616 := by first | rfl | simp [IntKind.wrap] 
                                                  rw [e]; omega
  have hp1 : (0 : Int) < n := by omega
  have hbig : ¬ (9223372036854775807 : Int) < (n : Int) := by omega
  go_enter Try.func18, Try.ntmps18
  go_wp2_with fail
  refine (bmul_any n h1 _).mono ?_; rintro e w' ⟨rfl, rfl⟩
  go_wp2_with (at_make; refine wpList_make_row _ rfl _ _ 39 rfl 3 i0 (.int .i64 0) Try.underlying39 hi hz0 hs0 rfl .i64 .i64 n rfl rfl (by rw [hy0]; omega) (by omega) ?_)
  have e0 : madeCells #[Value.int .i64 0] n = (partL z n 0).toArray := by rw [partL_zero, madeCells_zeros]; rfl
  have HR : Hid (RpS z n w w.heap.size 0 (w.alloc (.cells (madeCells #[Value.int .i64 0] n) 3))) := Lib.hid (by rw [e0]; exact ⟨Has.made _ _ _, (Below.refl _ _).alloc (Nat.le_refl _) _, Nat.le_refl _⟩)
  have HZ : Hid ((w.alloc (.cells (madeCells #[Value.int .i64 0] n) 3)).cell? ⟨b, 0, none⟩ = some (.int .i64 z)) := Lib.hid ((HR.out.keep.cell (block_lt_of_cell hz)).trans hz)
  obtain ⟨w2, e2, h2⟩ := rp_copy HR.out n n 1 1 1 ⟨b, 0, none⟩ (by show 1 = min 1 n; omega) (by omega) (fun j hj => by rw [Addr.add_mid, show 0 + j = 0 by omega]; exact HZ.out)
  rw [e2]
  have H2 : Hid (RpS z n w w.heap.size (0 + 1) w2) := Lib.hid h2
  generalize w.heap.size = g at H2 ⊢
  clear e2 h2 HR HZ e0
  go_wp2_with fail
  go_loopw [8] (fun i wr => ∃ m : Nat, 1 ≤ m ∧ m ≤ n ∧ i = .int .i64 m ∧ Hid (RpS z n w g m wr)) (fun i _ => n - (intOf i).toNat)
  case atStart => exact ⟨1, by omega, by omega, rfl, H2⟩
  case round =>
    clear H2
    obtain ⟨m, hm1, hm, rfl, HS⟩ := hrel
    by_cases hlt : m < n
    · have hlt2 : (m : Int) < (n : Int) := by omega
      have hle2 : (m : Int) ≤ (n : Int) := by omega
      have hne : ¬ n = m := by omega
      obtain ⟨k, hk⟩ : ∃ k, k = Nat.min m (n - m) := ⟨_, rfl⟩
      have hk2 : 0 < k ∧ k ≤ m ∧ m + k ≤ n := by have : Nat.min m (n - m) = min m (n - m) := rfl; omega
      have HKk := Lib.hid hk
      clear hk
      go_wp2_with fail
      go_region_law (refine rp_step rfl (.tmp 41) (.tmp 44) rfl rfl HS.out.drew (n - m) (n - m) m n k ⟨g, 0, none⟩ (by simp [Act.eval, Act.put]) (by simp [Act.eval, Act.put]) HKk.out hk2.2.2 (fun j hj => by rw [Addr.add_mid]; have := HS.out.drew.cellAt (j := j) (by omega); rwa [Nat.zero_add]) ?_; intro w4 H4)
      go_wp2_with fail
      simp only [List.getElem_toArray, List.getElem_cons_succ, List.getElem_cons_zero, Act.put, List.setIfInBounds_toArray, List.set_cons_succ, List.set_cons_zero]
      rw [IntWalk.i64_in _ (show -9223372036854775808 ≤ (m : Int) + (k : Int) ∧ (m : Int) + (k : Int) ≤ 9223372036854775807 by omega)]
      go_roundw
      case rel => exact ⟨m + k, by omega, by omega, by rw [Int.natCast_add], H4⟩
      case measure => simp [intOf]; omega
    · obtain rfl : m = n := by omega
      have HX := HS.out
      go_wp2_with fail
      go_ret
      exact ⟨g, rfl, HX.far, by rw [← partL_full]; exact HX.row, HX.keep⟩

end Go.Proofs.Ytgibmcljlaoahaa

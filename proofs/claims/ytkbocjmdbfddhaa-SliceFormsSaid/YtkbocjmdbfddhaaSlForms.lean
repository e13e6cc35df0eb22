/-
  Walk: SliceForms: queries, times, spans that have none.
-/
import Derived.Test.YtkbocjmdbfddhaaSlAwake
import Derived.Test.YtkbocjmdbfddhaaWMask
import Derived.Deep.DeepCutAuto
import Derived.Deep.CutBlock
import Derived.OpenShut
namespace Go.Proofs.Ytkbocjmdbfddhaa
open Go.RowKit

/-- What stands behind the switch: a query, a span that may not be. -/
def SfS (w : World) (gq gs : Nat) (wx : World) : Prop :=
  ∃ (kd sl s e : Int), Has wx gq 24 #[.int .i64 kd, .int .i64 0, .int .i64 10, .int .i64 sl, .slice none 0 0, .int .i64 0] ∧ Has wx gs 38 #[.int .i64 s, .int .i64 e] ∧ (mayQ kd 0 10 sl [] 0 && (decide (kd ≠ 2) && cutB kd 10 sl s e)) = false ∧ Below w.heap.size w wx
structure SfB (w : World) (gq gs : Nat) (wx : World) : Prop where
  q : Has wx gq 24 #[.int .i64 1, .int .i64 0, .int .i64 10, .int .i64 4, .slice none 0 0, .int .i64 0]
  s : Has wx gs 38 #[.int .i64 8, .int .i64 18]
  keep : Below w.heap.size w wx
  q0 : w.heap.size ≤ gq
  s0 : w.heap.size ≤ gs
  ne : gq ≠ gs
theorem SfB.below {w wx wy : World} {gq gs : Nat} (H : SfB w gq gs wx) (hb : Below wx.heap.size wx wy) : SfB w gq gs wy := ⟨H.q.below hb H.q.lt, H.s.below hb H.s.lt, H.keep.trans (hb.mono H.keep.size), H.q0, H.s0, H.ne⟩
section
variable {w wx : World} {gq gs : Nat} (S : SfB w gq gs wx)
include S
theorem sf_put (s e : Int) (i : Nat) (v : Value) (h : (#[.int .i64 8, .int .i64 18] : Array Value).setIfInBounds i v = #[.int .i64 s, .int .i64 e]) (hf : cutB 1 10 4 s e = false) : SfS w gq gs (wx.setCell ⟨gs, i, none⟩ v) :=
  ⟨1, 4, s, e, S.q.putFar S.ne v, h ▸ S.s.put i v, by rw [hf]; simp, S.keep.setCell S.s0 v⟩
theorem sf_row (s e : Int) (hf : cutB 1 10 4 s e = false) : SfS w gq gs (wx.setRow gs #[.int .i64 s, .int .i64 e]) :=
  ⟨1, 4, s, e, S.q.rowFar S.ne _, S.s.row _, by rw [hf]; simp, below_row S.keep S.s0 _⟩
theorem sf_qput (kd sl : Int) (i : Nat) (v : Value) (h : (#[.int .i64 1, .int .i64 0, .int .i64 10, .int .i64 4, .slice none 0 0, .int .i64 0] : Array Value).setIfInBounds i v = #[.int .i64 kd, .int .i64 0, .int .i64 10, .int .i64 sl, .slice none 0 0, .int .i64 0]) (hf : (mayQ kd 0 10 sl [] 0 && (decide (kd ≠ 2) && cutB kd 10 sl 8 18)) = false) : SfS w gq gs (wx.setCell ⟨gq, i, none⟩ v) :=
  ⟨kd, sl, 8, 18, h ▸ S.q.put i v, S.s.putFar (Ne.symm S.ne) v, hf, S.keep.setCell S.q0 v⟩
end
theorem cutB_no {kd sz sl s e : Int} (h : ¬ (-1099511627776 - 1073741824 ≤ s ∧ s ≤ 1099511627776 ∧ e = s + sz ∧ -1099511627776 < e)) : cutB kd sz sl s e = false :=
  decide_eq_false fun k => h ⟨k.1, k.2.1, k.2.2.1, k.2.2.2.1⟩

set_option maxRecDepth 100000 in
set_option maxHeartbeats 4000000 in
theorem sforms_any (a0 a1 : Int) (w : World) (w0 : (Lit.int .i64 a0).wf = true) (_ : (Lit.int .i64 a1).wf = true) :
    Calls Try.prog 11 #[.int .i64 a0, .int .i64 a1] w fun e w' => e = .returned (.bool true) ∧ Below w.heap.size w w' := by
  have b0 := bounds_i64 w0
  obtain ⟨d, hd5, hd3, hd4⟩ : ∃ d : Int, bits .and .i64 a1 1023 = d ∧ 0 ≤ d ∧ d ≤ 1023 := ⟨_, mask1023 a1, by omega, by omega⟩
  have C1 : Hid (∀ W : World, Calls Try.prog 26 #[.agg #[.int .i64 1, .int .i64 0, .int .i64 10, .int .i64 4, .slice none 0 0, .int .i64 0], .agg #[.int .i64 8, .int .i64 18]] W
      fun x w' => ∃ A c, x = .returned (.tuple #[.slice A 5 c, .int .i64 0]) ∧ OwnS w' W.heap.size (.slice A 5 c) (cutL 8 2 5) ∧ Below W.heap.size W w') :=
    fun W => cut_lit 1 0 10 4 0 8 18 none 0 0 5 [] _ W Ints.nil (Nat.zero_le _) (by decide) (by decide) (by decide) (by decide) (by decide)
  have C2 : Hid (∀ W : World, Calls Try.prog 24 #[.agg #[.int .i64 1, .int .i64 0, .int .i64 10, .int .i64 4, .slice none 0 0, .int .i64 0], .int .i64 (1099511627776 + (1 + d))] W (NoAt W)) :=
    fun W => at_bad 1 0 10 4 0 (1099511627776 + (1 + d)) none 0 0 [] W Ints.nil (Nat.zero_le _) (by rw [wi_false (by omega)]; simp)
  have C3 : Hid (∀ W : World, Calls Try.prog 22 #[.agg #[.int .i64 2, .int .i64 0, .int .i64 5, .int .i64 0, .slice none 0 0, .int .i64 0]] W (NoUnit W)) :=
    fun W => unit_bad 2 0 5 0 0 none 0 0 [] W Ints.nil (Nat.zero_le _) (by decide)
  go_enter Try.func11, Try.ntmps11
  go_wp2_with fail
  refine (sawake_any _).mono ?_
  rintro e w1 ⟨rfl, b1⟩
  have HSZ : Hid (SfB w w1.heap.size (w1.heap.size + 1) ((w1.alloc (.cells #[.int .i64 1, .int .i64 0, .int .i64 10, .int .i64 4, .slice none 0 0, .int .i64 0] 24)).alloc (.cells #[.int .i64 8, .int .i64 18] 38))) :=
    ⟨(Has.made _ _ _).alloc _, heap_alloc2_new w1 _ _, (b1.alloc b1.size _).alloc (by have := b1.size; simp; omega) _, b1.size, by have := b1.size; omega, by omega⟩
  clear b1
  go_wp2_with fail
  refine (C1.out _).mono ?_
  rintro e w2 ⟨A2, c2, rfl, o2, b2⟩
  have HS2 := Lib.hid (HSZ.out.below b2)
  generalize w1.heap.size = gq at *
  have hq2 : ∀ i, w2.cell? ⟨gq, i, none⟩ = _ := fun i => HS2.out.q.cell i
  clear b2 o2 HSZ C1
  go_wp2_with fail
  refine (C2.out _).mono ?_
  rintro e w3 ⟨rfl, b3⟩
  have HS3 := Lib.hid ((HS2.out.below b3).below ((Below.refl _ _).alloc (Nat.le_refl _) (.cells #[.int .i64 0, .int .i64 0] 38)))
  clear b3 hq2 HS2 C2
  go_wp2_with fail
  refine (C3.out _).mono ?_
  rintro e w4 ⟨rfl, b4⟩
  have S := HS3.out.below b4
  generalize w3.heap.size = g3 at *
  clear b4 HS3 C3
  generalize gq + 1 = gs at S ⊢
  go_upto_block 0 with fail
  obtain ⟨k, hk, ek⟩ : ∃ k : Nat, k < 7 ∧ (IntKind.u64.wrap a0).tmod 7 = k := by
    have h : 0 ≤ IntKind.u64.wrap a0 := by simp [IntKind.wrap, IntKind.bits, IntKind.signed]; omega
    have e : (IntKind.u64.wrap a0).tmod 7 = IntKind.u64.wrap a0 % 7 := Int.tmod_eq_emod_of_nonneg h
    exact ⟨(IntKind.u64.wrap a0 % 7).toNat, by omega, by omega⟩
  rw [ek]
  clear ek
  go_cut [] (fun wx => Hid (SfS w gq gs wx))
  case first =>
    have cQ : ∀ i, w4.cell? ⟨gq, i, none⟩ = (#[.int .i64 1, .int .i64 0, .int .i64 10, .int .i64 4, .slice none 0 0, .int .i64 0] : Array Value)[i]? := fun i => S.q.cell i
    have mQ : ∀ i, w4.frozen? ⟨gq, i, none⟩ = false := fun i => S.q.mark i
    have cS : ∀ i, w4.cell? ⟨gs, i, none⟩ = (#[.int .i64 8, .int .i64 18] : Array Value)[i]? := fun i => S.s.cell i
    have mS : ∀ i, w4.frozen? ⟨gs, i, none⟩ = false := fun i => S.s.mark i
    have hk18 : k = 0 ∨ k = 1 ∨ k = 2 ∨ k = 3 ∨ k = 4 ∨ k = 5 ∨ k = 6 := by omega
    clear hk
    have HS := Lib.hid S; clear S
    obtain ⟨r, hr, r1, r2⟩ : ∃ r, (1 + d).tmod 3 = r ∧ 0 ≤ r ∧ r ≤ 2 := ⟨_, Int.tmod_eq_emod_of_nonneg (by omega), by omega, by omega⟩
    rcases hk18 with rfl | rfl | rfl | rfl | rfl | rfl | rfl
    · go_wp2_with fail
      go_meet
      case rel => exact sf_put HS.out (9 + r) 18 0 _ rfl (cutB_no (by omega))
    · go_wp2_with fail
      go_meet
      case rel => exact sf_put HS.out 8 (18 + (1 + d)) 1 _ rfl (cutB_no (by omega))
    · go_wp2_with fail
      go_meet
      case rel => exact sf_put HS.out 8 (18 - (1 + d)) 1 _ rfl (cutB_no (by omega))
    · go_wp2_with (refine store_span rfl _ _ rfl _ rfl rfl HS.out.s rfl ?_)
      go_meet
      case rel => exact sf_row HS.out _ _ (cutB_no (by omega))
    · go_wp2_with (refine store_span rfl _ _ rfl _ rfl rfl HS.out.s rfl ?_)
      go_meet
      case rel => exact sf_row HS.out _ _ (cutB_no (by omega))
    · go_wp2_with fail
      go_meet
      case rel => exact sf_qput HS.out 1 0 3 _ rfl (by decide)
    · go_wp2_with fail
      go_meet
      case rel => exact sf_qput HS.out 2 4 0 _ rfl (by simp)
  case rest =>
    clear S
    obtain ⟨kd, sl, s, e, hQ, hS, hno, hB0⟩ := hcut.out
    clear hcut
    have HQ := Lib.hid hQ; clear hQ
    have HS := Lib.hid hS; clear hS
    have HB := Lib.hid hB0; clear hB0
    have HNO := Lib.hid hno; clear hno
    have hcq := fun i => HQ.out.cell i
    have hcs := fun i => HS.out.cell i
    go_wp2_with fail
    refine (cut_bad kd 0 10 sl 0 s e none 0 0 [] _ Ints.nil (Nat.zero_le _) HNO.out).mono ?_
    rintro e w5 ⟨rfl, hb5⟩
    have HB5 := Lib.hid (HB.out.trans (hb5.mono HB.out.size))
    clear hb5 hcq hcs HQ HS HB
    go_wp2_with (go_at_call 17; refine (wnum_any _ _).mono ?_; rintro e w' ⟨rfl, rfl⟩)
    go_ret
    exact ⟨rfl, HB5.out⟩

end Go.Proofs.Ytkbocjmdbfddhaa

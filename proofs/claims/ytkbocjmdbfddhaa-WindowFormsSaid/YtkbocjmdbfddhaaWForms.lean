/-
  Walk: WindowForms: each part of a query that may not be.
-/
import Derived.Test.YtkbocjmdbfddhaaWAwake
import Derived.Test.YtkbocjmdbfddhaaWMask
import Derived.Deep.DeepCutAuto
import Derived.Deep.CutBlock
import Derived.OpenShut
namespace Go.Proofs.Ytkbocjmdbfddhaa
open Go.RowKit

/-- What stands behind the switch: a query that may not be. -/
def QfS (w : World) (gq : Nat) (wx : World) : Prop :=
  ∃ (kd ag sz sl rk : Int) (B : Option Addr) (m d : Nat) (bs : List Int), Has wx gq 24 #[.int .i64 kd, .int .i64 ag, .int .i64 sz, .int .i64 sl, .slice B m d, .int .i64 rk] ∧ Ints wx B m bs ∧ m ≤ maxLen ∧ mayQ kd ag sz sl bs rk = false ∧ Below w.heap.size w wx
structure QfB (w : World) (gb gq : Nat) (wx : World) : Prop where
  q : Has wx gq 24 #[.int .i64 (1), .int .i64 (7), .int .i64 (10), .int .i64 (4), .slice (some ⟨gb, 0, none⟩) 2 2, .int .i64 (500)]
  b : Has wx gb 3 (ints [1, 2])
  keep : Below w.heap.size w wx
  q0 : w.heap.size ≤ gq
  ne : gb ≠ gq
theorem qints_of_has {w : World} {g n : Nat} {xs : List Int} (h : Has w g 3 (ints xs)) (hn : xs.length = n) : Ints w (some ⟨g, 0, none⟩) n xs := by
  subst hn
  refine ⟨rfl, fun _ => ⟨g, 0, rfl, fun k hk => ?_⟩⟩
  rw [Nat.zero_add, h.cell, ints_get xs hk]
section
variable {w wx : World} {gb gq : Nat} (S : QfB w gb gq wx)
include S
theorem qf_put (kd ag sz sl rk : Int) (i : Nat) (v : Value) (e : (#[.int .i64 (1), .int .i64 (7), .int .i64 (10), .int .i64 (4), .slice (some ⟨gb, 0, none⟩) 2 2, .int .i64 (500)] : Array Value).setIfInBounds i v = #[.int .i64 kd, .int .i64 ag, .int .i64 sz, .int .i64 sl, .slice (some ⟨gb, 0, none⟩) 2 2, .int .i64 rk]) (hf : mayQ kd ag sz sl [1, 2] rk = false) : QfS w gq (wx.setCell ⟨gq, i, none⟩ v) :=
  ⟨kd, ag, sz, sl, rk, some ⟨gb, 0, none⟩, 2, 2, [1, 2], e ▸ S.q.put i v, qints_of_has (S.b.putFar S.ne v) rfl, by unfold maxLen; omega, hf, S.keep.setCell S.q0 v⟩
theorem qf_put2 (kd ag sz sl rk : Int) (i j : Nat) (v u : Value) (e : ((#[.int .i64 (1), .int .i64 (7), .int .i64 (10), .int .i64 (4), .slice (some ⟨gb, 0, none⟩) 2 2, .int .i64 (500)] : Array Value).setIfInBounds i v).setIfInBounds j u = #[.int .i64 kd, .int .i64 ag, .int .i64 sz, .int .i64 sl, .slice (some ⟨gb, 0, none⟩) 2 2, .int .i64 rk]) (hf : mayQ kd ag sz sl [1, 2] rk = false) : QfS w gq ((wx.setCell ⟨gq, i, none⟩ v).setCell ⟨gq, j, none⟩ u) :=
  ⟨kd, ag, sz, sl, rk, some ⟨gb, 0, none⟩, 2, 2, [1, 2], e ▸ (S.q.put i v).put j u, qints_of_has ((S.b.putFar S.ne v).putFar S.ne u) rfl, by unfold maxLen; omega, hf, (S.keep.setCell S.q0 v).setCell S.q0 u⟩
theorem qf_nil : QfS w gq (wx.setCell ⟨gq, 4, none⟩ (.slice none 0 0)) :=
  ⟨1, 7, 10, 4, 500, none, 0, 0, [], S.q.put 4 _, Ints.nil, Nat.zero_le _, by decide, S.keep.setCell S.q0 _⟩
theorem qf_new {cs : Array Value} (xs : List Int) (n : Nat) (hcs : cs = ints xs) (hn : xs.length = n) (hm : n ≤ maxLen) (hf : mayQ 1 7 10 4 xs 500 = false) : QfS w gq ((wx.alloc (.cells cs 3)).setCell ⟨gq, 4, none⟩ (.slice (some ⟨wx.heap.size, 0, none⟩) n n)) := by
  subst hcs
  have hl := S.q.lt
  exact ⟨1, 7, 10, 4, 500, some ⟨wx.heap.size, 0, none⟩, n, n, xs, (S.q.alloc _).put 4 _, qints_of_has (xs := xs) ((Has.made wx 3 (ints xs)).putFar (p := ⟨gq, 4, none⟩) (show wx.heap.size ≠ gq by omega) _) hn, hm, hf, (S.keep.alloc S.keep.size _).setCell S.q0 _⟩
end
theorem no_kind {kd ag sz sl rk : Int} {bs : List Int} (h : ¬ (0 ≤ kd ∧ kd ≤ 2)) : mayQ kd ag sz sl bs rk = false := by unfold mayQ; rw [wi_false h]; rfl
theorem no_agg {kd ag sz sl rk : Int} {bs : List Int} (h : ¬ (0 ≤ ag ∧ ag ≤ 7)) : mayQ kd ag sz sl bs rk = false := by unfold mayQ; rw [wi_false h]; simp
theorem no_size {kd ag sz sl rk : Int} {bs : List Int} (h : ¬ (1 ≤ sz ∧ sz ≤ 1073741824)) : mayQ kd ag sz sl bs rk = false := by unfold mayQ; rw [wi_false h]; simp
theorem no_slide {ag sz sl rk : Int} {bs : List Int} (h : ¬ (1 ≤ sl ∧ sl ≤ sz ∧ (sz + sl - 1) / sl ≤ 64)) : mayQ 1 ag sz sl bs rk = false := by
  unfold mayQ slideB; rw [if_pos rfl, decide_eq_false (fun k => h ⟨k.1, k.2.1, k.2.2.1⟩)]; simp
theorem no_rank {kd sz sl rk : Int} {bs : List Int} (h : ¬ (0 ≤ rk ∧ rk ≤ 1000)) : mayQ kd 7 sz sl bs rk = false := by
  unfold mayQ rankB; rw [if_pos rfl, wi_false h]; simp
theorem no_bounds {kd sz sl rk : Int} {bs : List Int} (h : 8 < bs.length) : mayQ kd 7 sz sl bs rk = false := by
  have : boundsB bs = false := boundsB_false (fun k => by omega)
  unfold mayQ bndB; rw [if_pos (Or.inr rfl), this]; simp

theorem Try.winfoInt : (Try.prog.info? 3).map (fun i => (i.zero, i.size, i.bytes)) = some (some (.int .i64 0), 1, 8) := by kernel_rfl
/-- 'make([]int, n)' in a walk. -/
theorem wmake_ints {ops : Array Oper} {rest : List Oper} {op : Oper} {p : Act} {w : World} {Q : Exit → Act → World → Prop} (hgd : op.guard = none) (l c : Operand) (ho : op.op = Op.makeSlice 22 l c)
    {L : Int} (n : Nat) (hl : p.eval l = .int .i64 L) (hc : p.eval c = .int .i64 L) (hL : L = (n : Int)) (hn : n ≤ 17592186044416)
    (h : wpList Try.prog ops Q rest (p.put op.dst (.slice (some ⟨w.heap.size, 0, none⟩) n n)) (w.alloc (.cells (zeros n) 3))) : wpList Try.prog ops Q (op :: rest) p w := by
  obtain ⟨i0, hi, hz, hs0, hy0⟩ := info_parts Try.winfoInt
  refine wpList_plain hgd fun K hK => ?_
  subst hL
  have hr := run_make (P := Try.prog) w 22 3 i0 _ Try.underlying22 hi hz .i64 .i64 (n : Int) (n : Int) (by omega) (by omega) (by rw [hy0]; omega) (by omega)
  rw [hs0, Nat.mul_one, Int.toNat_natCast, show (Value.int IntKind.i64 0).cells = #[Value.int .i64 0] from rfl, madeCells_zeros] at hr
  unfold Oper.wp
  simp [execOp, ho, hl, hc, hr, Result.andThen]
  exact hK _ _ h

set_option maxRecDepth 100000 in
set_option maxHeartbeats 4000000 in
theorem wforms_any (a0 a1 : Int) (w : World) (w0 : (Lit.int .i64 a0).wf = true) (_ : (Lit.int .i64 a1).wf = true) :
    Calls Try.prog 5 #[.int .i64 a0, .int .i64 a1] w fun e w' => e = .returned (.bool true) ∧ Below w.heap.size w w' := by
  have b0 := bounds_i64 w0
  obtain ⟨d, hd5, hd3, hd4⟩ : ∃ d : Int, bits .and .i64 a1 1023 = d ∧ 0 ≤ d ∧ d ≤ 1023 := ⟨_, mask1023 a1, by omega, by omega⟩
  go_enter Try.func5, Try.ntmps5
  go_wp2_with fail
  refine (wawake_any _).mono ?_
  rintro e w2 ⟨rfl, hb2⟩
  go_wp2_with fail
  have hS : ∀ (o1 o2 : Array Value), o1 = ints [1, 2] → o2 = #[.int .i64 (1), .int .i64 (7), .int .i64 (10), .int .i64 (4), .slice (some ⟨w2.heap.size, 0, none⟩) 2 2, .int .i64 (500)] → QfB w w2.heap.size (w2.heap.size + 1) ((w2.alloc (.cells o1 3)).alloc (.cells o2 24)) := fun o1 o2 e1 e2 => by
    subst e1
    subst e2
    refine ⟨?_, (Has.made w2 _ _).alloc _, (hb2.alloc hb2.size _).alloc (by have := hb2.size; simp; omega) _, by have := hb2.size; omega, by omega⟩
    have := Has.made (w2.alloc (.cells (ints [1, 2]) 3)) 24 #[.int .i64 (1), .int .i64 (7), .int .i64 (10), .int .i64 (4), .slice (some ⟨w2.heap.size, 0, none⟩) 2 2, .int .i64 (500)]
    simpa using this
  have S0 := Lib.hid (hS _ _ rfl rfl); clear hS hb2
  refine (may4_any 1 7 10 4 500 (some ⟨w2.heap.size, 0, none⟩) 2 2 [1, 2] _ (qints_of_has S0.out.b rfl) (by unfold maxLen; omega)).mono ?_
  rw [show mayQ 1 7 10 4 [1, 2] 500 = true from by decide]
  rintro e w3 ⟨rfl, hb3⟩
  have S : QfB w w2.heap.size (w2.heap.size + 1) w3 := ⟨S0.out.q.below hb3 S0.out.q.lt, S0.out.b.below hb3 S0.out.b.lt, S0.out.keep.trans (hb3.mono S0.out.keep.size), S0.out.q0, S0.out.ne⟩
  clear hb3 S0
  generalize w2.heap.size = gb at S ⊢
  go_upto_block 0 with fail
  obtain ⟨k, hk, ek⟩ : ∃ k : Nat, k < 18 ∧ (IntKind.u64.wrap a0).tmod 18 = k := by
    have h : 0 ≤ IntKind.u64.wrap a0 := by simp [IntKind.wrap, IntKind.bits, IntKind.signed]; omega
    have e : (IntKind.u64.wrap a0).tmod 18 = IntKind.u64.wrap a0 % 18 := Int.tmod_eq_emod_of_nonneg h
    exact ⟨(IntKind.u64.wrap a0 % 18).toNat, by omega, by omega⟩
  rw [ek]
  clear ek
  go_cut [] (fun wx => Hid (QfS w (gb + 1) wx))
  case first =>
    have cQ : ∀ i, w3.cell? ⟨gb + 1, i, none⟩ = (#[.int .i64 (1), .int .i64 (7), .int .i64 (10), .int .i64 (4), .slice (some ⟨gb, 0, none⟩) 2 2, .int .i64 (500)] : Array Value)[i]? := fun i => S.q.cell i
    have mQ : ∀ i, w3.frozen? ⟨gb + 1, i, none⟩ = false := fun i => S.q.mark i
    have cQa : ∀ o i, (w3.alloc o).cell? ⟨gb + 1, i, none⟩ = (#[.int .i64 (1), .int .i64 (7), .int .i64 (10), .int .i64 (4), .slice (some ⟨gb, 0, none⟩) 2 2, .int .i64 (500)] : Array Value)[i]? := fun o i => (S.q.alloc o).cell i
    have mQa : ∀ o i, (w3.alloc o).frozen? ⟨gb + 1, i, none⟩ = false := fun o i => (S.q.alloc o).mark i
    have hk18 : k = 0 ∨ k = 1 ∨ k = 2 ∨ k = 3 ∨ k = 4 ∨ k = 5 ∨ k = 6 ∨ k = 7 ∨ k = 8 ∨ k = 9 ∨ k = 10 ∨ k = 11 ∨ k = 12 ∨ k = 13 ∨ k = 14 ∨ k = 15 ∨ k = 16 ∨ k = 17 := by omega
    clear hk
    have HS := Lib.hid S; clear S
    rcases hk18 with rfl | rfl | rfl | rfl | rfl | rfl | rfl | rfl | rfl | rfl | rfl | rfl | rfl | rfl | rfl | rfl | rfl | rfl
    · go_wp2_with fail
      go_meet
      case rel => exact qf_put HS.out (2 + (1 + d)) (7) (10) (4) (500) 0 _ rfl (no_kind (by omega))
    · go_wp2_with fail
      go_meet
      case rel => exact qf_put HS.out (-(1 + d)) (7) (10) (4) (500) 0 _ rfl (no_kind (by omega))
    · go_wp2_with fail
      go_meet
      case rel => exact qf_put HS.out (1) (7 + (1 + d)) (10) (4) (500) 1 _ rfl (no_agg (by omega))
    · go_wp2_with fail
      go_meet
      case rel => exact qf_put HS.out (1) (-(1 + d)) (10) (4) (500) 1 _ rfl (no_agg (by omega))
    · go_wp2_with fail
      go_meet
      case rel => exact qf_put HS.out (1) (7) (1 - (1 + d)) (4) (500) 2 _ rfl (no_size (by omega))
    · go_wp2_with fail
      go_meet
      case rel => exact qf_put HS.out (1) (7) (1073741824 + (1 + d)) (4) (500) 2 _ rfl (no_size (by omega))
    · go_wp2_with fail
      go_meet
      case rel => exact qf_put HS.out (1) (7) (10) (1 - (1 + d)) (500) 3 _ rfl (no_slide (by omega))
    · go_wp2_with fail
      go_meet
      case rel => exact qf_put HS.out (1) (7) (10) (10 + (1 + d)) (500) 3 _ rfl (no_slide (by omega))
    · go_wp2_with fail
      go_meet
      case rel => exact qf_nil HS.out
    · go_wp2_with fail
      go_meet
      case rel => exact qf_new HS.out [2, 2] 2 rfl rfl (by unfold maxLen; omega) (by decide)
    · go_wp2_with fail
      go_meet
      case rel => exact qf_put HS.out (1) (7) (10) (4) (1000 + (1 + d)) 5 _ rfl (no_rank (by omega))
    · go_wp2_with fail
      go_meet
      case rel => exact qf_put HS.out (1) (6) (10) (4) (500) 1 _ rfl (by decide)
    · go_wp2_with fail
      go_meet
      case rel => exact qf_put2 HS.out (1) (1) (10) (4) (0) 1 5 _ _ rfl (by decide)
    · go_wp2_with fail
      go_meet
      case rel => exact qf_put HS.out (0) (7) (10) (4) (500) 0 _ rfl (by decide)
    · go_wp2_with fail
      go_meet
      case rel => exact qf_put HS.out (2) (7) (10) (4) (500) 0 _ rfl (by decide)
    · go_wp2_with fail
      go_meet
      case rel => exact qf_put HS.out (1) (7) (256 + (1 + d)) (4) (500) 2 _ rfl (no_slide (by omega))
    · go_wp2_with fail
      go_meet
      case rel => exact qf_put2 HS.out (1) (7) (513) (512) (500) 2 3 _ _ rfl (by decide)
    · go_wp2_with (refine wmake_ints rfl _ _ rfl (8 + (1 + d)).toNat rfl rfl (by omega) (by omega) ?_)
      go_meet
      case rel => exact qf_new HS.out (List.replicate (8 + (1 + d)).toNat 0) _ (zeros_ints _) (by simp) (by unfold maxLen; omega) (no_bounds (by simp; omega))
  case rest =>
    clear S
    obtain ⟨kd, ag, sz, sl, rk, B, m, dd, bs, hQ, hI, hm, hno, hB0⟩ := hcut.out
    clear hcut
    have HQ := Lib.hid hQ; clear hQ
    have HI := Lib.hid hI; clear hI
    have HB := Lib.hid hB0; clear hB0
    have hc4 := fun i => HQ.out.cell i
    go_wp2_with fail
    refine (of_bad kd ag sz sl rk 3 B m dd bs _ HI.out hm (by rw [hno]; rfl)).mono ?_
    rintro e w5 ⟨rfl, hb5⟩
    have HQ5 := Lib.hid (HQ.out.below hb5 HQ.out.lt)
    have HI5 := Lib.hid (HI.out.below hb5)
    have HB5 := Lib.hid (HB.out.trans (hb5.mono HB.out.size))
    have hc5 : ∀ i, w5.cell? ⟨gb + 1, i, none⟩ = _ := fun i => HQ5.out.cell i
    clear hb5 HQ HI HB hc4
    go_wp2_with fail
    refine (may4_any kd ag sz sl rk B m dd bs _ HI5.out hm).mono ?_
    rw [hno]
    rintro e w6 ⟨rfl, hb6⟩
    have HB6 := Lib.hid (HB5.out.trans (hb6.mono HB5.out.size))
    clear hb6 hc5 HQ5 HI5 HB5 hno
    go_wp2_with (go_at_call 17; refine (wnum_any _ _).mono ?_; rintro e w' ⟨rfl, rfl⟩)
    go_ret
    exact ⟨rfl, HB6.out⟩

end Go.Proofs.Ytkbocjmdbfddhaa

/-
  More drawn regions of the tree (written by gen/trreg.py).
  Walk: is one that stands alike there?
-/
import Derived.Test.YtdoflmphkalicaaS7
import Derived.Test.YtdoflmphkalicaaS8
import Derived.Test.YtdoflmphkalicaaS2
import Derived.Test.YtdoflmphkalicaaCmp
import Derived.Deep.LoopGhost
namespace Go.Proofs.Ytdoflmphkalicaa
open Go.RowKit

def th2D : List (Option Tmp) := [some 8, some 9, some 10, some 11, some 12, some 13, some 5]
def th2F (_y b : Nat) (x v : It) (_av : Ac) (_hk : Nat) (_p _q : Option Addr) : List Fact := [isV (.agg #[.int .i64 x.s, .int .i64 x.t, .int .i64 x.q, .int .i64 x.v]), isV (.pointer (some ⟨b, 0, none⟩)), isV (.pointer (some ⟨b, 0, none⟩)), isV (.pointer (some ⟨b, 1, none⟩)), isV (.agg #[.int .i64 v.s, .int .i64 v.t, .int .i64 v.q, .int .i64 v.v]), isV (.int .i64 (cmpT x v)), isV (.int .i64 (cmpT x v))]
theorem th2F_mono (y b : Nat) (x v : It) (av : Ac) (hk : Nat) (p q : Option Addr) : ∀ φ ∈ th2F y b x v av hk p q, Mono φ := by
  unfold th2F
  refine monos_cons (mono_isV _) ?_
  refine monos_cons (mono_isV _) ?_
  refine monos_cons (mono_isV _) ?_
  refine monos_cons (mono_isV _) ?_
  refine monos_cons (mono_isV _) ?_
  refine monos_cons (mono_isV _) ?_
  refine monos_cons (mono_isV _) ?_
  exact monos_nil
structure th2S (y b : Nat) (x v : It) (av : Ac) (hk : Nat) (p q : Option Addr) (a0 : Act) (w0 : World) : Prop where
  size : a0.tmps.size = 28
  v0 : a0.tmps.getD 0 undef = .pointer (some ⟨b, 0, none⟩)
  v3 : a0.tmps.getD 3 undef = .pointer (some ⟨y, 0, none⟩)
  bx : Has w0 y 47 #[.int .i64 x.s, .int .i64 x.t, .int .i64 x.q, .int .i64 x.v]
  pb : Has w0 b 107 (prtC p v q av hk)
section
variable {y b : Nat} {x v : It} {av : Ac} {hk : Nat} {p q : Option Addr} {a0 : Act} {w0 : World} (S : th2S y b x v av hk p q a0 w0)
include S
set_option maxRecDepth 100000 in
set_option maxHeartbeats 8000000 in
theorem th2_ok : AllOps (fun j o => ∀ (a : Act) (w : World), Below w0.heap.size w0 w → FrD th2D a0 a → needs th2D (th2F y b x v av hk p q) a w o.after.toList → StepD Try.prog th2D (factAt (th2F y b x v av hk p q) j) o a w) 0 (opsOf 2 Try.f75) := by
  simp only [opsOf, Try.f75, opsAt, Option.bind, Option.or, Option.getD, reduceCtorEq, if_true, if_false, Nat.reduceEqDiff]
  refine ⟨?_, ?_⟩
  · intro _a _w hB hF _hd
    exact rf_loadS (guard_none rfl) rfl _ _ rfl _ _ ((hF.other 3 rfl).trans S.v3) _ (rf_range (S.bx.below hB S.bx.lt)) Try.underlying47 rfl (by kernel_rfl) rfl
  refine ⟨?_, ?_⟩
  · intro _a _w _hB hF _hd
    exact step_move (guard_none rfl) rfl _ rfl ((hF.other 0 rfl).trans S.v0)
  refine ⟨?_, ?_⟩
  · intro a _w _hB _hF hd
    have h9 : a.tmps.getD 9 undef = .pointer (some ⟨b, 0, none⟩) := hd.1 rfl
    exact rf_nilck (guard_none rfl) rfl _ rfl _ h9 rfl
  refine ⟨?_, ?_⟩
  · intro a _w _hB _hF hd
    have h10 : a.tmps.getD 10 undef = .pointer (some ⟨b, 0, none⟩) := hd.1 rfl
    exact rf_faddr (guard_none rfl) rfl _ _ _ rfl _ _ 1 _ h10 (by omega) (fun _ _ => by kernel_rfl) rfl
  refine ⟨?_, ?_⟩
  · intro a _w hB _hF hd
    have h11 : a.tmps.getD 11 undef = .pointer (some ⟨b, 1, none⟩) := hd.1 rfl
    exact rf_loadItP (guard_none rfl) rfl _ rfl _ _ h11 v (prtC_item _ _ _ _ _ (S.pb.below hB S.pb.lt)) rfl
  refine ⟨?_, ?_⟩
  · intro a _w _hB _hF hd
    have h8 : a.tmps.getD 8 undef = .agg #[.int .i64 x.s, .int .i64 x.t, .int .i64 x.q, .int .i64 x.v] := hd.1 rfl
    have h12 : a.tmps.getD 12 undef = .agg #[.int .i64 v.s, .int .i64 v.t, .int .i64 v.q, .int .i64 v.v] := hd.2.1 rfl
    refine step_call (guard_none rfl) rfl _ _ (rf_call_run Try.func74 (by kernel_rfl) (by kernel_rfl) _ _ rfl) ?_
    simp only [List.map_toArray, List.map_cons, List.map_nil, Act.eval, h8, h12]
    exact (compare_any x v _).mono (by rintro e w1 ⟨rfl, hb⟩; exact ⟨_, rfl, hb, rfl⟩)
  refine ⟨?_, ?_⟩
  · intro a _w _hB _hF hd
    have h13 : a.tmps.getD 13 undef = .int .i64 (cmpT x v) := hd.1 rfl
    exact step_assign (guard_none rfl) rfl _ rfl h13
  trivial
theorem th2_any {Q : Exit → Act → World → Prop} {l : List Oper} (hl : opsOf 2 Try.f75 = l) (hend : ∀ w : World, Below w0.heap.size w0 w → Q .normal (putAll a0 [(8, .agg #[.int .i64 x.s, .int .i64 x.t, .int .i64 x.q, .int .i64 x.v]), (9, .pointer (some ⟨b, 0, none⟩)), (10, .pointer (some ⟨b, 0, none⟩)), (11, .pointer (some ⟨b, 1, none⟩)), (12, .agg #[.int .i64 v.s, .int .i64 v.t, .int .i64 v.q, .int .i64 v.v]), (13, .int .i64 (cmpT x v)), (5, .int .i64 (cmpT x v))]) w) :
    (Code.region 2 l.toArray true).wp Try.prog Q a0 w0 := by
  subst hl
  refine region_facts2 (th2F y b x v av hk p q) th2D 28 S.size rfl (by kernel_rfl) (by kernel_rfl) (th2F_mono _ _ _ _ _ _ _ _) (th2_ok S) fun a w hB hF h => ?_
  have hv : valsAre a [(8, .agg #[.int .i64 x.s, .int .i64 x.t, .int .i64 x.q, .int .i64 x.v]), (9, .pointer (some ⟨b, 0, none⟩)), (10, .pointer (some ⟨b, 0, none⟩)), (11, .pointer (some ⟨b, 1, none⟩)), (12, .agg #[.int .i64 v.s, .int .i64 v.t, .int .i64 v.q, .int .i64 v.v]), (13, .int .i64 (cmpT x v)), (5, .int .i64 (cmpT x v))] := by
    refine ⟨?_, ?_, ?_, ?_, ?_, ?_, ?_, trivial⟩
    · exact h 0 (some 8) rfl
    · exact h 1 (some 9) rfl
    · exact h 2 (some 10) rfl
    · exact h 3 (some 11) rfl
    · exact h 4 (some 12) rfl
    · exact h 5 (some 13) rfl
    · exact h 6 (some 5) rfl
  rw [frame_is hF _ hv (by rfl) (by rfl)]
  exact hend w hB
end

end Go.Proofs.Ytdoflmphkalicaa

namespace Go.Proofs.Ytdoflmphkalicaa
open Go.RowKit

theorem StrS.twin_lo {xs ys : List It} {x v : It} (h : StrS (xs ++ v :: ys)) (hc : lt2 x v = true) : twinB (xs ++ v :: ys) x = twinB xs x := by
  have h2 := (List.pairwise_cons.1 (List.pairwise_append.1 h).2.1).1
  have e : twinB (v :: ys) x = false := twinB_no.2 fun y hy => by
    rw [lt2_iff] at hc
    rcases List.mem_cons.1 hy with rfl | hy
    · omega
    · have := h2 y hy; rw [lt2_iff] at this; omega
  unfold twinB at *
  rw [List.any_append, e, Bool.or_false]
theorem StrS.twin_hi {xs ys : List It} {x v : It} (h : StrS (xs ++ v :: ys)) (hc : lt2 x v = false) (hz : ¬ (v.t = x.t ∧ v.q = x.q)) : twinB (xs ++ v :: ys) x = twinB ys x := by
  have h2 := (List.pairwise_append.1 h).2.2
  have e : twinB xs x = false := twinB_no.2 fun y hy => by
    rw [lt2_no] at hc
    have := h2 y hy v (by simp); rw [lt2_iff] at this; omega
  unfold twinB at *
  rw [List.any_append, e, Bool.false_or, List.any_cons, decide_eq_false hz, Bool.false_or]
/-- What the loop knows: the part that it stands at. -/
def HasR (bs : List Int) (P : Nat → Prop) (w : World) (x : It) (β : Bool) (k : Nat) (p : Value) (wr : World) : Prop :=
  ∃ T : Tr, p = .pointer T.ptr ∧ T.ht = k ∧ T.At bs P w ∧ StrS T.row ∧ twinB T.row x = β ∧ Has wr w.heap.size 47 #[.int .i64 x.s, .int .i64 x.t, .int .i64 x.q, .int .i64 x.v] ∧ Below w.heap.size w wr

set_option maxRecDepth 100000 in
set_option maxHeartbeats 2000000 in
theorem thas_any (bs : List Int) (P : Nat → Prop) (T : Tr) (x : It) (w : World) (hA : T.At bs P w) (hS : StrS T.row) :
    Calls Try.prog 75 #[.pointer T.ptr, .agg #[.int .i64 x.s, .int .i64 x.t, .int .i64 x.q, .int .i64 x.v]] w fun e w' => e = .returned (.bool (twinB T.row x)) ∧ Below w.heap.size w w' := by
  have HR0 : Hid (HasR bs P w x (twinB T.row x) T.ht (.pointer T.ptr) (w.alloc (.cells #[.int .i64 x.s, .int .i64 x.t, .int .i64 x.q, .int .i64 x.v] 47))) :=
    ⟨T, rfl, rfl, hA, hS, rfl, Has.made _ _ _, (Below.refl _ _).alloc (Nat.le_refl _) _⟩
  clear hA hS
  generalize twinB T.row x = β at HR0 ⊢
  generalize T.ptr = tp at HR0 ⊢
  generalize T.ht = N at HR0
  clear T
  go_enter Try.func75, Try.ntmps75
  go_wp2_with fail
  go_loopg [0] N (fun k p wr => Hid (HasR bs P w x β k p wr))
  case atStart => exact HR0
  case round =>
    clear HR0
    obtain ⟨T, rfl, hk, hA, hS, hβ, hX, hB⟩ := hrel.out
    cases T with
    | nil =>
      have hβ2 : β = false := by rw [← hβ]; rfl
      subst hβ2
      have HB := Lib.hid hB
      clear hrel hk hA hS hβ hX hB
      show Code.wp _ _ _ _ _
      have e0 : Tr.nil.ptr = none := rfl
      rw [e0]
      clear e0
      go_wp2_with fail
      go_ret
      exact ⟨rfl, HB.out⟩
    | node b H l v r =>
      have e0 : (Tr.node b H l v r).ptr = some ⟨b, 0, none⟩ := rfl
      rw [e0]
      clear e0
      have HB3 := Lib.hid (fun w' (hb : Below w.heap.size w w') => (hA.below hb).2.2.1)
      have HAl := Lib.hid hA.2.2.2.2.1
      have HAr := Lib.hid hA.2.2.2.2.2
      have HS := Lib.hid hS
      have HX := Lib.hid hX
      have HB := Lib.hid hB
      have HK := Lib.hid hk
      have HBT := Lib.hid hβ
      clear hrel hk hA hS hβ hX hB
      go_upto_region 2 with fail
      refine th2_any (y := w.heap.size) (b := b) (x := x) (v := v) (av := foldA bs (Tr.node b H l v r).row) (hk := H) (p := l.ptr) (q := r.ptr) ⟨rfl, rfl, rfl, HX.out, HB3.out _ HB.out⟩ (by kernel_rfl) ?_
      intro w4 hB4
      have HX4 := Lib.hid (HX.out.below hB4 HX.out.lt)
      have HW4 := Lib.hid (HB.out.trans (hB4.mono HB.out.size))
      have hc0 : w4.cell? ⟨b, 0, none⟩ = some (.pointer l.ptr) := (HB3.out _ HW4.out).cell 0
      have hc5 : w4.cell? ⟨b, 5, none⟩ = some (.pointer r.ptr) := (HB3.out _ HW4.out).cell 5
      clear hB4 HX HB HB3
      simp only [putAll, Act.put, List.setIfInBounds_toArray, List.set_cons_succ, List.set_cons_zero]
      by_cases hz : cmpT x v = 0
      · have hβ2 : β = true := by
          rw [← HBT.out]
          exact twinB_iff.2 ⟨v, by simp [Tr.row], by have := cmpT_zero.1 hz; omega⟩
        subst hβ2
        clear HAl HAr HS HK HBT
        generalize cmpT x v = c at hz ⊢
        go_wp2_with fail
        go_ret
        exact ⟨rfl, HW4.out⟩
      · by_cases hn : cmpT x v < 0
        · have hR : HasR bs P w x β l.ht (.pointer l.ptr) w4 := ⟨l, rfl, rfl, HAl.out, HS.out.left, by rw [← HBT.out]; exact (StrS.twin_lo HS.out (cmpT_neg.1 hn)).symm, HX4.out, HW4.out⟩
          have HR := Lib.hid hR
          have hlt : l.ht < gk := by rw [← HK.out]; simp only [Tr.ht]; omega
          have HLT := Lib.hid hlt
          clear HAl HAr HS HK HBT hR hlt HX4 HW4 hc5
          generalize cmpT x v = c at hz hn ⊢
          go_wp2_with fail
          go_roundg l.ht
          case rel => exact HR
          case measure => exact HLT.out
        · have hf : lt2 x v = false := by
            cases e : lt2 x v with
            | true => exact absurd (cmpT_neg.2 e) hn
            | false => rfl
          have hR : HasR bs P w x β r.ht (.pointer r.ptr) w4 := ⟨r, rfl, rfl, HAr.out, (StrS.right (xs := l.row ++ [v]) (by simpa [Tr.row] using HS.out)), by
            rw [← HBT.out]
            exact (StrS.twin_hi HS.out hf (fun e => hz (cmpT_zero.2 ⟨e.1.symm, e.2.symm⟩))).symm, HX4.out, HW4.out⟩
          have HR := Lib.hid hR
          have hlt : r.ht < gk := by rw [← HK.out]; simp only [Tr.ht]; omega
          have HLT := Lib.hid hlt
          clear HAl HAr HS HK HBT hR hlt HX4 HW4 hc0 hf
          generalize cmpT x v = c at hz hn ⊢
          go_wp2_with fail
          go_roundg r.ht
          case rel => exact HR
          case measure => exact HLT.out

end Go.Proofs.Ytdoflmphkalicaa

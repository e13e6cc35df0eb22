/-
  Walks: slices.AppendSeq and slices.Collect of what slices.Values goes over.
  More drawn regions of the tree (written by gen/trreg.py).
  Walk: is one that stands alike there?
-/
import Derived.Test.YtjgjbhbpndjnnaaG39
import Derived.Maps.AppendAt
import Derived.Test.YtjgjbhbpndjnnaaG25
import Derived.Test.YtjgjbhbpndjnnaaG15
import Derived.Test.YtjgjbhbpndjnnaaHead3
import Derived.Test.YtjgjbhbpndjnnaaG2
import Derived.Deep.LoopGhost
namespace Go.Proofs.Ytjgjbhbpndjnnaa
open Go.RowKit Go.Shelf

attribute [local go_sem] Oper.semAt_some

set_option maxRecDepth 100000 in
set_option maxHeartbeats 4000000 in
theorem appseq_in (F : Fence) (n : Nat) (h1f : F.fn 97) (h2f : F.fn 92) (hro : F.round = none) (hn : 3 ≤ n) (Bs : Nat) (A : Option Addr) (len cap : Nat) (zs : List It) (hl8 : len ≤ 8192) (w : World) (hc : w.cell? ⟨Bs, 0, none⟩ = some (.slice A len cap)) (hI : Items w A len zs) :
    CallsIn F n Try.prog 97 #[.slice none 0 0, .func (.func 92) #[] #[.pointer (some ⟨Bs, 0, none⟩)]] w fun e w' => ∃ v, e = .returned v ∧ OwnIt w' w.heap.size v zs ∧ Below w.heap.size w w' := by
  have h1 : 1 ≤ n := by omega
  obtain ⟨i0, hi, hz, hs0, hy0⟩ := info_parts Try.infoItem
  have hseq := vals_stops F (n - 1) h2f hro (by omega) Bs A len cap zs (by omega) w hc hI
  refine callsIn_of_wp_marks Try.func97 rfl h1f ?_ hro
  simp only [Try.ntmps97, List.size_toArray, List.length_cons, List.length_nil, Nat.reduceAdd, Nat.reduceSub, Array.replicate_succ, Array.replicate_zero, List.push_toArray, List.append_toArray, List.nil_append, List.cons_append]
  gi_wp2
  have hbx := Boxed.new w 52 (.slice none 0 0)
  have hB1 : Below w.heap.size w (w.alloc (.cells #[.slice none 0 0] 52)) := (Below.refl _ _).alloc (Nat.le_refl _) _
  refine wpIn_rangeFunc_ownH hro h1 (gf := 92) (lb := #[.pointer (some ⟨Bs, 0, none⟩)]) rfl h2f (enters_of Try.func92 (by kernel_rfl) rfl) hseq belowK_t (belowK_b (by simp)) hB1 (fun _ => rfl)
    (fun pre W => (∃ v, Boxed W w.heap.size 52 v ∧ W.ownsRow w.heap.size 23 4 v pre.length (pre.flatMap itemL) ∧ True) ∧ Below w.heap.size w W)
    (fun _ _ _ => False)
    (OwnFrom.and (Own.from (holdsRow_own w.heap.size w.heap.size 52 23 4 (fun (pre : List It) => pre.length) (fun (pre : List It) => pre.flatMap itemL) (fun _ _ => True)) _) (ownFrom_below (Nat.le_refl _) (by simp)))
    (fun _ _ _ _ _ hs _ _ => hs)
    ⟨⟨_, hbx, World.ownsRow_nil _ _ _ _, trivial⟩, hB1⟩
    (fun x a' W => ∃ Bx, w.heap.size < Bx ∧ Has W Bx 23 (itemL x).toArray ∧ a' = { tmps := #[.slice none 0 0, .func (.func 92) #[] #[.pointer (some ⟨Bs, 0, none⟩)], .pointer (some ⟨w.heap.size, 0, none⟩), undef, .slice none 0 0, .pointer (some ⟨Bx, 0, none⟩), .func (.func 92) #[] #[.pointer (some ⟨Bs, 0, none⟩)], .agg #[.int .i64 x.s, .int .i64 x.t, .int .i64 x.q, .int .i64 x.v], undef, undef, undef, undef, undef], defers := [] })
    ?hAx ?assign ?body ?done ?stop
  case hAx =>
    rintro x a' s W W' row ⟨Bx, h1, h2, h3⟩ hg hr
    refine ⟨Bx, h1, (hg.block Bx h2.lt (fun e => ?_)).trans h2, h3⟩
    obtain ⟨_, o, ho, hc⟩ := hr Bx e.symm
    rw [show W.heap[Bx]? = _ from h2] at ho
    cases ho
    cases hc
  case assign =>
    rintro l pre x W K ⟨⟨v, hv, hrow, _⟩, hB⟩ hK
    gi_wp2
    exact hK _ _ ((KeepsOthers.alloc _ _).from _) ((Below.refl _ W).alloc hB.size _) ⟨⟨v, hv.alloc _, hrow.alloc _, trivial⟩, hB.trans ((Below.refl _ W).alloc hB.size _)⟩ ⟨W.heap.size, hv.lt, Has.made _ _ _, rfl⟩
  case body =>
    rintro l pre x a' W hl ⟨r, hr⟩ ⟨⟨v, hv, hrow, _⟩, hB⟩ ⟨Bx, hBx, hX, rfl⟩ hlt
    have hcv := hv.cell
    have hx : ∀ i, W.cell? ⟨Bx, i, none⟩ = (itemL x).toArray[i]? := hX.cell
    have hx0 : W.cell? ⟨Bx, 0, none⟩ = some (.int .i64 x.s) := hx 0
    have hx1 : W.cell? ⟨Bx, 1, none⟩ = some (.int .i64 x.t) := hx 1
    have hx2 : W.cell? ⟨Bx, 2, none⟩ = some (.int .i64 x.q) := hx 2
    have hx3 : W.cell? ⟨Bx, 3, none⟩ = some (.int .i64 x.v) := hx 3
    clear hx
    have hle : w.heap.size ≤ w.heap.size := Nat.le_refl _
    gi_wp2_with (first
      | (gi_at_builtin
         refine wpListIn_append_own _ rfl _ _ 52 rfl w.heap.size 23 i0 _ 4 32 Try.underlying52 hi hz hs0 hy0 rfl (by decide) _ _ _ rfl (hrow.alloc _) ⟨W.heap.size, 0, none⟩ 1 1 (itemL x) rfl rfl
           (fun j u hu => by
             rw [Addr.add_mid, Nat.zero_add]
             exact ((Has.made W _ _).cell j).trans ((show (itemL x).toArray[j]? = (itemL x)[j]? from List.getElem?_toArray).trans hu))
           (fun u hu => by simp only [itemL, List.mem_cons, List.not_mem_nil, or_false] at hu; rcases hu with rfl | rfl | rfl | rfl <;> rfl) (by unfold maxLen; omega) (by omega) (by have := hB.size; simp; omega) ?_
         intro v' w1 hown' hgrow _
         obtain ⟨g', cap', rfl⟩ := ownsRow_succ hown'
         obtain ⟨hv1, hv2, hr2, hk2, hb2⟩ := hv.appended (by decide) hrow hB.size hle hown' hgrow
         have hc1 := hv1.cell
         have hf1 := hv1.frozen)
      | gi_in)
    exact ⟨hk2.from _, hb2, ⟨_, hv2, by simpa [List.flatMap_append] using hr2, trivial⟩, hB.trans hb2⟩
  case done =>
    rintro D ys W hD rfl ⟨⟨v, hv, hrow, _⟩, hB⟩ hK
    have hcv := hv.cell
    have hsh : ∃ A2 n2 c2, v = .slice A2 n2 c2 := by
      obtain ⟨A2, c2, e, _⟩ := OwnIt.form (show OwnIt W w.heap.size v ys from hrow)
      exact ⟨A2, _, c2, e⟩
    obtain ⟨A2, n2, c2, rfl⟩ := hsh
    gi_wp2
    refine ⟨by simp, .inl ⟨_, _, rfl, run_takeDeferred hK, ?_⟩⟩
    refine ⟨_, results_tmp rfl _ _ _, ⟨.slice A2 n2 c2, rfl, (show OwnIt (W.putObj D (.deferred none)) w.heap.size (.slice A2 n2 c2) ys from ownsRow_putObj hrow _ hK rfl), ?_⟩⟩
    exact hB.trans (belowK_b (w := w) (Nat.le_refl _) W D _ _ (by simp at hD; omega) hK rfl rfl)
  case stop =>
    rintro D c pre W _ _ h _
    exact h.elim

set_option maxRecDepth 100000 in
set_option maxHeartbeats 1000000 in
theorem collect_in (F : Fence) (n : Nat) (h0f : F.fn 90) (h1f : F.fn 97) (h2f : F.fn 92) (hro : F.round = none) (hn : 4 ≤ n) (Bs : Nat) (A : Option Addr) (len cap : Nat) (zs : List It) (hl8 : len ≤ 8192) (w : World) (hc : w.cell? ⟨Bs, 0, none⟩ = some (.slice A len cap)) (hI : Items w A len zs) :
    CallsIn F n Try.prog 90 #[.func (.func 92) #[] #[.pointer (some ⟨Bs, 0, none⟩)]] w fun e w' => ∃ v, e = .returned v ∧ OwnIt w' w.heap.size v zs ∧ Below w.heap.size w w' := by
  have h1 : 1 ≤ n := by omega
  have HA := Lib.hid (appseq_in F (n - 1) h1f h2f hro (by omega) Bs A len cap zs hl8 w hc hI)
  clear hc hI
  refine callsIn_of_wp Try.func90 rfl h0f ?_ hro
  simp only [Try.ntmps90, List.size_toArray, List.length_cons, List.length_nil, Nat.reduceAdd, Nat.reduceSub, Array.replicate_succ, Array.replicate_zero, List.push_toArray, List.append_toArray, List.nil_append, List.cons_append]
  gi_wp2_with (gi_at_call 97; refine HA.out.mono ?_; clear HA; rintro e w1 ⟨v, rfl, h1, h2⟩)
  go_ret
  exact ⟨v, rfl, h1, h2⟩
theorem collect_any (Bs : Nat) (A : Option Addr) (len cap : Nat) (zs : List It) (hl8 : len ≤ 8192) (w : World) (hc : w.cell? ⟨Bs, 0, none⟩ = some (.slice A len cap)) (hI : Items w A len zs) :
    Calls Try.prog 90 #[.func (.func 92) #[] #[.pointer (some ⟨Bs, 0, none⟩)]] w fun e w' => ∃ v, e = .returned v ∧ OwnIt w' w.heap.size v zs ∧ Below w.heap.size w w' :=
  (callsIn_wide (n := 5)).1 (collect_in _ 5 trivial trivial trivial rfl (by omega) Bs A len cap zs hl8 w hc hI)
theorem tvals_any (a : Option Addr) (len cap : Nat) (w : World) :
    Calls Try.prog 79 #[.slice a len cap] w fun e w' => e = .returned (.func (.func 92) #[] #[.pointer (some ⟨w.heap.size, 0, none⟩)]) ∧ w' = w.alloc (.cells #[.slice a len cap] 52) :=
  (callsIn_wide (n := 5)).1 (vals_in _ 5 trivial rfl a len cap w)

end Go.Proofs.Ytjgjbhbpndjnnaa

namespace Go.Proofs.Ytjgjbhbpndjnnaa
open Go.RowKit

def th2D : List (Option Tmp) := [some 8, some 9, some 10, some 11, some 12, some 13, some 5]
def th2F (_y b : Nat) (x v : It) (_av : Ac) (_hk : Nat) (_p _q : Option Addr) : List Fact := [isV (.agg #[.int .i64 x.s, .int .i64 x.t, .int .i64 x.q, .int .i64 x.v]), isV (.pointer (some ⟨b, 0, none⟩)), isV (.pointer (some ⟨b, 0, none⟩)), isV (.pointer (some ⟨b, 1, none⟩)), isV (.agg #[.int .i64 v.s, .int .i64 v.t, .int .i64 v.q, .int .i64 v.v]), isV (.int .i64 (cmpT x v)), isV (.int .i64 (cmpT x v))]
theorem th2F_mono (y b : Nat) (x v : It) (av : Ac) (hk : Nat) (p q : Option Addr) : ∀ φ ∈ th2F y b x v av hk p q, Mono φ := by
  unfold th2F
  refine monos_cons (mono_isV _) ?_
  refine monos_cons (mono_isV _) ?_
  refine monos_cons (mono_isV _) ?_
  refine monos_cons (mono_isV _) ?_
  refine monos_cons (mono_isV _) ?_
  refine monos_cons (mono_isV _) ?_
  refine monos_cons (mono_isV _) ?_
  exact monos_nil
structure th2S (y b : Nat) (x v : It) (av : Ac) (hk : Nat) (p q : Option Addr) (a0 : Act) (w0 : World) : Prop where
  size : a0.tmps.size = 28
  v0 : a0.tmps.getD 0 undef = .pointer (some ⟨b, 0, none⟩)
  v3 : a0.tmps.getD 3 undef = .pointer (some ⟨y, 0, none⟩)
  bx : Has w0 y 23 #[.int .i64 x.s, .int .i64 x.t, .int .i64 x.q, .int .i64 x.v]
  pb : Has w0 b 110 (prtC p v q av hk)
section
variable {y b : Nat} {x v : It} {av : Ac} {hk : Nat} {p q : Option Addr} {a0 : Act} {w0 : World} (S : th2S y b x v av hk p q a0 w0)
include S
set_option maxRecDepth 100000 in
set_option maxHeartbeats 8000000 in
theorem th2_ok : AllOps (fun j o => ∀ (a : Act) (w : World), Below w0.heap.size w0 w → FrD th2D a0 a → needs th2D (th2F y b x v av hk p q) a w o.after.toList → StepD Try.prog th2D (factAt (th2F y b x v av hk p q) j) o a w) 0 (opsOf 2 Try.f80) := by
  simp only [opsOf, Try.f80, opsAt, Option.bind, Option.or, Option.getD, reduceCtorEq, if_true, if_false, Nat.reduceEqDiff]
  refine ⟨?_, ?_⟩
  · intro _a _w hB hF _hd
    exact rf_loadS (guard_none rfl) rfl _ _ rfl _ _ ((hF.other 3 rfl).trans S.v3) _ (rf_range (S.bx.below hB S.bx.lt)) Try.underlying23 rfl (by kernel_rfl) rfl
  refine ⟨?_, ?_⟩
  · intro _a _w _hB hF _hd
    exact step_move (guard_none rfl) rfl _ rfl ((hF.other 0 rfl).trans S.v0)
  refine ⟨?_, ?_⟩
  · intro a _w _hB _hF hd
    have h9 : a.tmps.getD 9 undef = .pointer (some ⟨b, 0, none⟩) := hd.1 rfl
    exact rf_nilck (guard_none rfl) rfl _ rfl _ h9 rfl
  refine ⟨?_, ?_⟩
  · intro a _w _hB _hF hd
    have h10 : a.tmps.getD 10 undef = .pointer (some ⟨b, 0, none⟩) := hd.1 rfl
    exact rf_faddr (guard_none rfl) rfl _ _ _ rfl _ _ 1 _ h10 (by omega) (fun _ _ => by kernel_rfl) rfl
  refine ⟨?_, ?_⟩
  · intro a _w hB _hF hd
    have h11 : a.tmps.getD 11 undef = .pointer (some ⟨b, 1, none⟩) := hd.1 rfl
    exact rf_loadItP (guard_none rfl) rfl _ rfl _ _ h11 v (prtC_item _ _ _ _ _ (S.pb.below hB S.pb.lt)) rfl
  refine ⟨?_, ?_⟩
  · intro a _w _hB _hF hd
    have h8 : a.tmps.getD 8 undef = .agg #[.int .i64 x.s, .int .i64 x.t, .int .i64 x.q, .int .i64 x.v] := hd.1 rfl
    have h12 : a.tmps.getD 12 undef = .agg #[.int .i64 v.s, .int .i64 v.t, .int .i64 v.q, .int .i64 v.v] := hd.2.1 rfl
    refine step_call (guard_none rfl) rfl _ _ (rf_call_run Try.func72 (by kernel_rfl) (by kernel_rfl) _ _ rfl) ?_
    simp only [List.map_toArray, List.map_cons, List.map_nil, Act.eval, h8, h12]
    exact (compare_any x v _).mono (by rintro e w1 ⟨rfl, hb⟩; exact ⟨_, rfl, hb, rfl⟩)
  refine ⟨?_, ?_⟩
  · intro a _w _hB _hF hd
    have h13 : a.tmps.getD 13 undef = .int .i64 (cmpT x v) := hd.1 rfl
    exact step_assign (guard_none rfl) rfl _ rfl h13
  trivial
theorem th2_any {Q : Exit → Act → World → Prop} {l : List Oper} (hl : opsOf 2 Try.f80 = l) (hend : ∀ w : World, Below w0.heap.size w0 w → Q .normal (putAll a0 [(8, .agg #[.int .i64 x.s, .int .i64 x.t, .int .i64 x.q, .int .i64 x.v]), (9, .pointer (some ⟨b, 0, none⟩)), (10, .pointer (some ⟨b, 0, none⟩)), (11, .pointer (some ⟨b, 1, none⟩)), (12, .agg #[.int .i64 v.s, .int .i64 v.t, .int .i64 v.q, .int .i64 v.v]), (13, .int .i64 (cmpT x v)), (5, .int .i64 (cmpT x v))]) w) :
    (Code.region 2 l.toArray true).wp Try.prog Q a0 w0 := by
  subst hl
  refine region_facts2 (th2F y b x v av hk p q) th2D 28 S.size rfl (by kernel_rfl) (by kernel_rfl) (th2F_mono _ _ _ _ _ _ _ _) (th2_ok S) fun a w hB hF h => ?_
  have hv : valsAre a [(8, .agg #[.int .i64 x.s, .int .i64 x.t, .int .i64 x.q, .int .i64 x.v]), (9, .pointer (some ⟨b, 0, none⟩)), (10, .pointer (some ⟨b, 0, none⟩)), (11, .pointer (some ⟨b, 1, none⟩)), (12, .agg #[.int .i64 v.s, .int .i64 v.t, .int .i64 v.q, .int .i64 v.v]), (13, .int .i64 (cmpT x v)), (5, .int .i64 (cmpT x v))] := by
    refine ⟨?_, ?_, ?_, ?_, ?_, ?_, ?_, trivial⟩
    · exact h 0 (some 8) rfl
    · exact h 1 (some 9) rfl
    · exact h 2 (some 10) rfl
    · exact h 3 (some 11) rfl
    · exact h 4 (some 12) rfl
    · exact h 5 (some 13) rfl
    · exact h 6 (some 5) rfl
  rw [frame_is hF _ hv (by rfl) (by rfl)]
  exact hend w hB
end

end Go.Proofs.Ytjgjbhbpndjnnaa

namespace Go.Proofs.Ytjgjbhbpndjnnaa
open Go.RowKit

theorem StrS.twin_lo {xs ys : List It} {x v : It} (h : StrS (xs ++ v :: ys)) (hc : lt2 x v = true) : twinB (xs ++ v :: ys) x = twinB xs x := by
  have h2 := (List.pairwise_cons.1 (List.pairwise_append.1 h).2.1).1
  have e : twinB (v :: ys) x = false := twinB_no.2 fun y hy => by
    rw [lt2_iff] at hc
    rcases List.mem_cons.1 hy with rfl | hy
    · omega
    · have := h2 y hy; rw [lt2_iff] at this; omega
  unfold twinB at *
  rw [List.any_append, e, Bool.or_false]
theorem StrS.twin_hi {xs ys : List It} {x v : It} (h : StrS (xs ++ v :: ys)) (hc : lt2 x v = false) (hz : ¬ (v.t = x.t ∧ v.q = x.q)) : twinB (xs ++ v :: ys) x = twinB ys x := by
  have h2 := (List.pairwise_append.1 h).2.2
  have e : twinB xs x = false := twinB_no.2 fun y hy => by
    rw [lt2_no] at hc
    have := h2 y hy v (by simp); rw [lt2_iff] at this; omega
  unfold twinB at *
  rw [List.any_append, e, Bool.false_or, List.any_cons, decide_eq_false hz, Bool.false_or]
/-- What the loop knows: the part that it stands at. -/
def HasR (bs : List Int) (P : Nat → Prop) (w : World) (x : It) (β : Bool) (k : Nat) (p : Value) (wr : World) : Prop :=
  ∃ T : Tr, p = .pointer T.ptr ∧ T.ht = k ∧ T.At bs P w ∧ StrS T.row ∧ twinB T.row x = β ∧ Has wr w.heap.size 23 #[.int .i64 x.s, .int .i64 x.t, .int .i64 x.q, .int .i64 x.v] ∧ Below w.heap.size w wr

set_option maxRecDepth 100000 in
set_option maxHeartbeats 2000000 in
theorem thas_any (bs : List Int) (P : Nat → Prop) (T : Tr) (x : It) (w : World) (hA : T.At bs P w) (hS : StrS T.row) :
    Calls Try.prog 80 #[.pointer T.ptr, .agg #[.int .i64 x.s, .int .i64 x.t, .int .i64 x.q, .int .i64 x.v]] w fun e w' => e = .returned (.bool (twinB T.row x)) ∧ Below w.heap.size w w' := by
  have HR0 : Hid (HasR bs P w x (twinB T.row x) T.ht (.pointer T.ptr) (w.alloc (.cells #[.int .i64 x.s, .int .i64 x.t, .int .i64 x.q, .int .i64 x.v] 23))) :=
    ⟨T, rfl, rfl, hA, hS, rfl, Has.made _ _ _, (Below.refl _ _).alloc (Nat.le_refl _) _⟩
  clear hA hS
  generalize twinB T.row x = β at HR0 ⊢
  generalize T.ptr = tp at HR0 ⊢
  generalize T.ht = N at HR0
  clear T
  go_enter Try.func80, Try.ntmps80
  go_wp2_with fail
  go_loopg [0] N (fun k p wr => Hid (HasR bs P w x β k p wr))
  case atStart => exact HR0
  case round =>
    clear HR0
    obtain ⟨T, rfl, hk, hA, hS, hβ, hX, hB⟩ := hrel.out
    cases T with
    | nil =>
      have hβ2 : β = false := by rw [← hβ]; rfl
      subst hβ2
      have HB := Lib.hid hB
      clear hrel hk hA hS hβ hX hB
      show Code.wp _ _ _ _ _
      have e0 : Tr.nil.ptr = none := rfl
      rw [e0]
      clear e0
      go_wp2_with fail
      go_ret
      exact ⟨rfl, HB.out⟩
    | node b H l v r =>
      have e0 : (Tr.node b H l v r).ptr = some ⟨b, 0, none⟩ := rfl
      rw [e0]
      clear e0
      have HB3 := Lib.hid (fun w' (hb : Below w.heap.size w w') => (hA.below hb).2.2.1)
      have HAl := Lib.hid hA.2.2.2.2.1
      have HAr := Lib.hid hA.2.2.2.2.2
      have HS := Lib.hid hS
      have HX := Lib.hid hX
      have HB := Lib.hid hB
      have HK := Lib.hid hk
      have HBT := Lib.hid hβ
      clear hrel hk hA hS hβ hX hB
      go_upto_region 2 with fail
      refine th2_any (y := w.heap.size) (b := b) (x := x) (v := v) (av := foldA bs (Tr.node b H l v r).row) (hk := H) (p := l.ptr) (q := r.ptr) ⟨rfl, rfl, rfl, HX.out, HB3.out _ HB.out⟩ (by kernel_rfl) ?_
      intro w4 hB4
      have HX4 := Lib.hid (HX.out.below hB4 HX.out.lt)
      have HW4 := Lib.hid (HB.out.trans (hB4.mono HB.out.size))
      have hc0 : w4.cell? ⟨b, 0, none⟩ = some (.pointer l.ptr) := (HB3.out _ HW4.out).cell 0
      have hc5 : w4.cell? ⟨b, 5, none⟩ = some (.pointer r.ptr) := (HB3.out _ HW4.out).cell 5
      clear hB4 HX HB HB3
      simp only [putAll, Act.put, List.setIfInBounds_toArray, List.set_cons_succ, List.set_cons_zero]
      by_cases hz : cmpT x v = 0
      · have hβ2 : β = true := by
          rw [← HBT.out]
          exact twinB_iff.2 ⟨v, by simp [Tr.row], by have := cmpT_zero.1 hz; omega⟩
        subst hβ2
        clear HAl HAr HS HK HBT
        generalize cmpT x v = c at hz ⊢
        go_wp2_with fail
        go_ret
        exact ⟨rfl, HW4.out⟩
      · by_cases hn : cmpT x v < 0
        · have hR : HasR bs P w x β l.ht (.pointer l.ptr) w4 := ⟨l, rfl, rfl, HAl.out, HS.out.left, by rw [← HBT.out]; exact (StrS.twin_lo HS.out (cmpT_neg.1 hn)).symm, HX4.out, HW4.out⟩
          have HR := Lib.hid hR
          have hlt : l.ht < gk := by rw [← HK.out]; simp only [Tr.ht]; omega
          have HLT := Lib.hid hlt
          clear HAl HAr HS HK HBT hR hlt HX4 HW4 hc5
          generalize cmpT x v = c at hz hn ⊢
          go_wp2_with fail
          go_roundg l.ht
          case rel => exact HR
          case measure => exact HLT.out
        · have hf : lt2 x v = false := by
            cases e : lt2 x v with
            | true => exact absurd (cmpT_neg.2 e) hn
            | false => rfl
          have hR : HasR bs P w x β r.ht (.pointer r.ptr) w4 := ⟨r, rfl, rfl, HAr.out, (StrS.right (xs := l.row ++ [v]) (by simpa [Tr.row] using HS.out)), by
            rw [← HBT.out]
            exact (StrS.twin_hi HS.out hf (fun e => hz (cmpT_zero.2 ⟨e.1.symm, e.2.symm⟩))).symm, HX4.out, HW4.out⟩
          have HR := Lib.hid hR
          have hlt : r.ht < gk := by rw [← HK.out]; simp only [Tr.ht]; omega
          have HLT := Lib.hid hlt
          clear HAl HAr HS HK HBT hR hlt HX4 HW4 hc0 hf
          generalize cmpT x v = c at hz hn ⊢
          go_wp2_with fail
          go_roundg r.ht
          case rel => exact HR
          case measure => exact HLT.out

end Go.Proofs.Ytjgjbhbpndjnnaa

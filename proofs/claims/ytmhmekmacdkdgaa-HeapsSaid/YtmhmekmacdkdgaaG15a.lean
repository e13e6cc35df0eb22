/-
  Both heaps beside one another; a part of the items that came in.
  While the reference's Push runs: what it leaves, the lent row, the part of what came in.
  Heaps' two drawn regions (written by gen/hpheaps.py).
-/
import Derived.Test.YtmhmekmacdkdgaaHpRPop
import Derived.Test.YtmhmekmacdkdgaaG15b
import Derived.Test.YtmhmekmacdkdgaaRf
namespace Go.Proofs.Ytmhmekmacdkdgaa
open Go.RowKit

def pn (xs : List It) : Int := if xs.length = 0 then 1502 else 0
section
variable {w0 w w' : World} {bs gs hs : List Nat} {g y : Nat} {m : Int} {xs ys : List It}
theorem HpK.popA (h : HpK w0 bs g m xs w) (hn : xs.length ≤ 8192) :
    Calls Try.prog 12 #[.pointer (some ⟨g, 0, none⟩)] w fun e w' => e = .returned (.tuple #[itV (nthI xs 0), .int .i64 (pn xs)]) ∧ HpK w0 bs g m xs.tail w' ∧ ∀ k, (k ∈ bs ∨ k < w0.heap.size) → w'.heap[k]? = w.heap[k]? := by
  by_cases h0 : xs.length = 0
  · obtain rfl : xs = [] := List.length_eq_zero_iff.1 h0
    have hlt : ∀ k, (k ∈ bs ∨ k < w0.heap.size) → k < w.heap.size := fun k hk => by
      have hs := h.size
      obtain ⟨_, _, _, _, h4⟩ := h
      rcases hk with hk | hk
      · exact h4 k hk
      · omega
    exact h.popNone.mono fun e w' h2 => ⟨h2.1, h.below h2.2, fun k hk => h2.2.block k (hlt k hk)⟩
  · unfold pn
    rw [if_neg h0]
    exact h.pop (by omega) hn
theorem HpK.peekA (h : HpK w0 bs g m xs w) (hn : xs.length ≤ 8192) :
    Calls Try.prog 19 #[.pointer (some ⟨g, 0, none⟩)] w fun e w' => e = .returned (.tuple #[itV (nthI xs 0), .int .i64 (pn xs)]) ∧ Below w.heap.size w w' := by
  by_cases h0 : xs.length = 0
  · obtain rfl : xs = [] := List.length_eq_zero_iff.1 h0
    exact h.peekNone
  · unfold pn
    rw [if_neg h0]
    exact h.peek (by omega) hn
theorem HrS.popA (h : HrS w gs g m xs) (hn : xs.length ≤ 8192) :
    Calls Try.prog 13 #[.pointer (some ⟨g, 0, none⟩)] w fun e w' => e = .returned (.tuple #[itV (nthI xs 0), .int .i64 (pn xs)]) ∧ WrO (fun w gs => HrS w gs g m xs.tail) gs w w' := by
  by_cases h0 : xs.length = 0
  · obtain rfl : xs = [] := List.length_eq_zero_iff.1 h0
    exact (rpop_none h).mono fun e w' h2 => ⟨h2.1, .same (h.below h2.2) h2.2⟩
  · unfold pn
    rw [if_neg h0]
    exact rpop_some h (by omega) hn
theorem HrS.peekA (h : HrS w gs g m xs) :
    Calls Try.prog 20 #[.pointer (some ⟨g, 0, none⟩)] w fun e w' => e = .returned (.tuple #[itV (nthI xs 0), .int .i64 (pn xs)]) ∧ Below w.heap.size w w' := by
  by_cases h0 : xs.length = 0
  · obtain rfl : xs = [] := List.length_eq_zero_iff.1 h0
    exact rpeek_none h
  · unfold pn
    rw [if_neg h0]
    exact rpeek_some h (by omega)

/-- Both hold xs: the program's in blocks apart from the reference's, hs, all made since w0. -/
structure DuoH (w0 : World) (g y : Nat) (m : Int) (hs : List Nat) (xs : List It) (w : World) : Prop where
  hp : HpK w0 hs g m xs w
  rf : HrS w hs y m xs
  far : ∀ k ∈ hs, w0.heap.size ≤ k
  room : (xs.length : Int) ≤ m
theorem DuoH.below (h : DuoH w0 g y m hs xs w) (hb : Below w.heap.size w w') : DuoH w0 g y m hs xs w' := ⟨h.hp.below hb, h.rf.below hb, h.far, h.room⟩
theorem HrS.held (h : HrS w hs y m xs) (hk : ∀ k, (k ∈ hs ∨ k < w0.heap.size) → w'.heap[k]? = w.heap[k]?) (hs' : w.heap.size ≤ w'.heap.size) : HrS w' hs y m xs := h.same (fun k hk2 => hk k (.inl hk2)) hs'
/-- The reference has written. -/
theorem DuoH.wrote (hp : HpK w0 (bs ++ hs) g m xs w) (hf : ∀ k ∈ hs, w0.heap.size ≤ k) (hb : ButS hs w w') (h : ∃ hs', HrS w' hs' y m ys ∧ ∀ k ∈ hs', k ∈ hs ∨ w.heap.size ≤ k) (hx : xs = ys) (hr : (ys.length : Int) ≤ m) : ∃ hs', DuoH w0 g y m hs' ys w' := by
  subst hx
  obtain ⟨hs', h1, h2⟩ := h
  obtain ⟨gs, k1, k2, k3, k4⟩ := hp
  have hz := k3.size
  refine ⟨hs', ⟨gs, k1.butS hb (fun k hk e => (k2 k hk).2 (List.mem_append_right _ e)), fun k hk => ⟨(k2 k hk).1, fun e => ?_⟩, hb.below k3 hz hf, fun b hb2 => h1.lt b hb2⟩, h1, fun k hk => ?_, hr⟩
  · rcases h2 k e with h3 | h3
    · exact (k2 k hk).2 (List.mem_append_right _ h3)
    · have := k1.lt k hk; omega
  · rcases h2 k hk with h3 | h3
    · exact hf k h3
    · omega
theorem pushL_room {m : Int} {xs zs : List It} (h : (xs.length : Int) ≤ m) : ((pushL m xs zs).length : Int) ≤ m := by
  unfold pushL
  split
  · split
    · exact h
    · rw [insAll_len]; omega
  · exact h
end

/-! xs[a:k]. -/
def partA (A : Option Addr) (a c : Nat) : Option Addr := if c = a then A else A.map (·.add (a * 4))
theorem run_part (w : World) (A : Option Addr) (n c a k : Nat) (ha : a ≤ k) (hk : k ≤ c) : (Instr.sliceAt 22 (.slice A n c) (some (.int .i64 (a : Int))) (some (.int .i64 (k : Int))) none).run Try.prog w = .ok (.slice (partA A a c) (k - a) (c - a)) w := by
  have e := run_slice_lh w 22 A n c elem_it .i64 .i64 (a : Int) (k : Int) (by omega) (by omega) (by omega)
  rw [run_sliceAt_slice w _ _ _ _ _ elem_it, e, size_itE]
  simp only [Result.andThen_ok, sliced, Int.toNat_natCast]
  rfl
theorem Items.part {w : World} {A : Option Addr} {n c : Nat} {xs : List It} (h : Items w A n xs) {a k : Nat} (ha : a ≤ k) (hk : k ≤ n) (hn : n ≤ c) : Items w (partA A a c) (k - a) ((xs.drop a).take (k - a)) := by
  by_cases h0 : k - a = 0
  · rw [h0]; exact Items.nil _ _
  · obtain ⟨b, o, rfl, _⟩ := h.2 (by omega)
    unfold partA
    rw [if_neg (by omega)]
    have he : (Option.map (fun x => Addr.add x (a * 4)) (some (⟨b, o, none⟩ : Addr))) = some ⟨b, o + a * 4, none⟩ := by simp [Addr.add]
    rw [he]
    exact (Items.drop h (k := a) (by omega)).take (by omega)
theorem partA_none {A : Option Addr} {n c a k : Nat} (hnil : A = none → c = 0 ∧ n = 0) (ha : a ≤ k) (hk : k ≤ n) (e : partA A a c = none) : c - a = 0 ∧ k - a = 0 := by
  have : A = none := by
    unfold partA at e
    by_cases h : c = a
    · rwa [if_pos h] at e
    · rw [if_neg h] at e
      cases A with
      | none => rfl
      | some x => cases e
  have := hnil this
  omega
theorem partA_low {A : Option Addr} {c a B : Nat} (h : ∀ ad, A = some ad → ad.block < B) : ∀ ad, partA A a c = some ad → ad.block < B := fun ad e => by
  unfold partA at e
  by_cases h0 : c = a
  · rw [if_pos h0] at e; exact h ad e
  · rw [if_neg h0] at e
    cases A with
    | none => cases e
    | some x =>
      have := h x rfl
      have e2 : x.add (a * 4) = ad := by simpa using e
      rw [← e2]
      unfold Addr.add
      split <;> exact this
/-- 'xs[a:k]' of items in a walk. -/
theorem cut_midIt {ops : Array Oper} {rest : List Oper} {op : Oper} {p : Act} {w : World} {Q : Exit → Act → World → Prop} (hgd : op.guard = none) (x y z : Operand) (ho : op.op = .slice 22 x (some y) (some z) none)
    {A : Option Addr} {n c a k : Nat} (hx : p.eval x = .slice A n c) (hy : p.eval y = .int .i64 (a : Int)) (hz : p.eval z = .int .i64 (k : Int)) (ha : a ≤ k) (hk : k ≤ c)
    (h : wpList Try.prog ops Q rest (p.put op.dst (.slice (partA A a c) (k - a) (c - a))) w) : wpList Try.prog ops Q (op :: rest) p w :=
  wpList_plain hgd fun _ hK => by
    unfold Oper.wp execOp
    simp only [ho, Option.map_some, Option.map_none, hx, hy, hz, Sem.run_bind, run_part w A n c a k ha hk, Result.andThen_ok]
    exact hK _ _ h

end Go.Proofs.Ytmhmekmacdkdgaa

namespace Go.Proofs.Ytmhmekmacdkdgaa
open Go.RowKit

def RpI (hs : List Nat) (B y : Nat) (m : Int) (xs xs' : List It) (base : Nat) (L : Option Addr) (lc : Nat) (zs : List It) (P : Option Addr) (l : Nat) : Bool → Bool → World → Prop := fun p _ w =>
  (if p = true then ∃ hs', HrS w hs' y m xs' ∧ ∀ k ∈ hs', k ∈ hs ∨ B ≤ k else HrS w hs y m xs) ∧ OwnIt w base (.slice L (l + 2) lc) (zs ++ [markIt, markIt]) ∧ Items w P l zs
section
variable {hs : List Nat} {B y base lc l : Nat} {m N : Int} {xs xs' zs : List It} {L P : Option Addr} {w0 w w' : World} {p q : Bool}
theorem RpI.below (h : RpI hs B y m xs xs' base L lc zs P l p q w) (hb : Below w.heap.size w w') : RpI hs B y m xs xs' base L lc zs P l p q w' := by
  refine ⟨?_, h.2.1.below hb, h.2.2.below hb⟩
  have h1 := h.1
  cases p with
  | true =>
    rw [if_pos rfl] at h1 ⊢
    obtain ⟨hs', h3, h4⟩ := h1
    exact ⟨hs', h3.below hb, h4⟩
  | false =>
    rw [if_neg (by simp)] at h1 ⊢
    exact h1.below hb
theorem RpI.start (h1 : HrS w hs y m xs) (h2 : OwnIt w base (.slice L (l + 2) lc) (zs ++ [markIt, markIt])) (h3 : Items w P l zs) : RpI hs B y m xs xs' base L lc zs P l false q w := ⟨by rw [if_neg (by simp)]; exact h1, h2, h3⟩
theorem RpI.pre (h : RpI hs B y m xs xs' base L lc zs P l false q w) : HrS w hs y m xs := by have := h.1; rwa [if_neg (by simp)] at this
theorem RpI.post (h : RpI hs B y m xs xs' base L lc zs P l true q w) : ∃ hs', HrS w hs' y m xs' ∧ ∀ k ∈ hs', k ∈ hs ∨ B ≤ k := by have := h.1; rwa [if_pos rfl] at this
theorem RpI.push (hI : MI hs (RpI hs B y m xs xs' base L lc zs P l) w0 false q w) {e : Ending} (hB : w0.heap.size = B) (hL : ∀ j, (Value.slice L (l + 2) lc).ownBlock = some j → j ∉ hs) (hP : Far hs P l)
    (h : e = .returned (.int .i64 (pushN m xs zs)) ∧ WrO (fun w gs => HrS w gs y m (pushL m xs zs)) hs w w') (hN : pushN m xs zs = N) (hX : pushL m xs zs = xs') :
    ∃ v, e = .returned v ∧ ButS hs w w' ∧ MI hs (RpI hs B y m xs xs' base L lc zs P l) w0 true false w' ∧ v = .int .i64 N := by
  subst hN hX
  obtain ⟨rfl, hs', h1, h2, h3⟩ := h
  have hz := hI.gr.size
  refine ⟨_, rfl, h2, ⟨hI.gr.trans h2, ?_, hI.st.2.1.butS h2 hL, hI.st.2.2.butS h2 hP⟩, rfl⟩
  rw [if_pos rfl]
  refine ⟨hs', h1, fun k hk => ?_⟩
  rcases h3 k hk with h4 | h4
  · exact .inl h4
  · exact .inr (by omega)
end
theorem rf_part {D : List (Option Tmp)} {Φ : Fact} {o : Oper} {a : Act} {w : World} (hw : Region.wanted o (yieldD D a.tmps) = true) {t : Tmp} (hd : o.dst = some t) (x y z : Operand) (ho : o.op = .slice 22 x (some y) (some z) none) {A : Option Addr} {n c i k : Nat} (hx : a.eval x = .slice A n c) (hy : a.eval y = .int .i64 (i : Int)) (hz : a.eval z = .int .i64 (k : Int)) (hi : i ≤ k) (hk : k ≤ c) (h : Φ (.slice (partA A i c) (k - i) (c - i)) w) : StepD Try.prog D Φ o a w :=
  step_val hw hd _ w (by unfold execOp; simp only [ho, Option.map_some, Option.map_none, hx, hy, hz, Sem.run_bind, run_part w A n c i k hi hk, Result.andThen_ok]; rfl) (Below.refl _ _) h

end Go.Proofs.Ytmhmekmacdkdgaa

namespace Go.Proofs.Ytmhmekmacdkdgaa
open Go.RowKit

def hhs19D : List (Option Tmp) := [some 108, some 109, some 110, some 111, some 112, some 113, some 114, some 115, some 116, some 117, some 118, some 119, some 120, some 121, some 122, some 123, some 124, some 125]
def hhs19F (_hs : List Nat) (y n c i k lc _base _B : Nat) (_m N : Int) (_xs _xs' _zs : List It) (A L : Option Addr) : List Fact := [isV (.int .i64 N), isV (.int .i64 N), isV (.pointer (some ⟨y, 0, none⟩)), isV (.slice A n c), isV (.int .i64 i), isV (.int .i64 k), isV (.slice (partA A i c) (k - i) (c - i)), isV (.int .i64 N), isV (.bool false), isV (.bool false), isV (.slice L (k - i) lc), isV (.slice A n c), isV (.int .i64 i), isV (.int .i64 k), isV (.slice (partA A i c) (k - i) (c - i)), isV (.bool true), isV (.bool false)]
theorem hhs19F_mono (hs : List Nat) (y n c i k lc base B : Nat) (m N : Int) (xs xs' zs : List It) (A L : Option Addr) : ∀ φ ∈ hhs19F hs y n c i k lc base B m N xs xs' zs A L, Mono φ := by
  unfold hhs19F
  repeat (first | exact monos_nil | (refine monos_cons (mono_isV _) ?_))
structure hhs19S (hs : List Nat) (y n c i k lc base B : Nat) (m N : Int) (xs xs' zs : List It) (A L : Option Addr) (a0 : Act) (w0 : World) : Prop where
  size : a0.tmps.size = 159
  v1 : a0.tmps.getD 1 undef = .slice A n c
  v9 : a0.tmps.getD 9 undef = .pointer (some ⟨y, 0, none⟩)
  v11 : a0.tmps.getD 11 undef = .int .i64 i
  v17 : a0.tmps.getD 17 undef = .int .i64 k
  v18 : a0.tmps.getD 18 undef = .slice L (k - i) lc
  v19 : a0.tmps.getD 19 undef = .int .i64 N
  eB : w0.heap.size = B
  lB : ∀ j ∈ hs, j < B
  rf : HrS w0 hs y m xs
  own : OwnIt w0 base (.slice L (k - i + 2) lc) (zs ++ [markIt, markIt])
  its : Items w0 (partA A i c) (k - i) zs
  nL : ∀ j, (Value.slice L (k - i + 2) lc).ownBlock = some j → j ∉ hs
  far : Far hs (partA A i c) (k - i)
  ik : i ≤ k
  kc : k ≤ c
  small : k - i ≤ 1000
  mm : 1 ≤ m ∧ m ≤ 8192
  room : xs.length ≤ 8192
  eN : pushN m xs zs = N
  eX : pushL m xs zs = xs'
section
variable {hs : List Nat} {y n c i k lc base B : Nat} {m N : Int} {xs xs' zs : List It} {A L : Option Addr} {a0 : Act} {w0 : World} (S : hhs19S hs y n c i k lc base B m N xs xs' zs A L a0 w0)
include S
theorem hhs19_gB : ∀ g ∈ (hs : List Nat), g < B := by
  intro g hg
  exact S.lB g hg
omit S in
theorem hhs19F_monoS : ∀ φ ∈ hhs19F hs y n c i k lc base B m N xs xs' zs A L, MonoS hs φ := by
  unfold hhs19F
  repeat (first | exact allS_nil _ | (refine allS_cons (isV_monoS _ _) ?_))
set_option maxRecDepth 100000 in
set_option maxHeartbeats 8000000 in
theorem hhs19_ok : AllOps (fun j o => ∀ (a : Act) (w : World) (b1 b2 : Bool), (j = 7 → b1 = false ∧ b2 = false) → (j = 1000 → b1 = true ∧ b2 = false) → MI hs (RpI hs B y m xs xs' base L lc zs (partA A i c) (k - i)) w0 b1 b2 w → FrD (hhs19D.take 17) a0 a → needs hhs19D (hhs19F hs y n c i k lc base B m N xs xs' zs A L) a w o.after.toList → AskM Try.prog hhs19D (factAt (hhs19F hs y n c i k lc base B m N xs xs' zs A L) j) (ButS hs) (ButS hs) (MI hs (RpI hs B y m xs xs' base L lc zs (partA A i c) (k - i)) w0) 7 1000 j o a w) 0 ((opsOf 19 Try.f3).take 17) := by
  simp only [opsOf, Try.f3, opsAt, Option.bind, Option.or, Option.getD, reduceCtorEq, if_true, if_false, Nat.reduceEqDiff, List.take_succ_cons, List.take_zero]
  refine ⟨?_, ?_⟩
  · intro a w b1 b2 h1 h2 hI hF hd
    refine askM_d (by decide) (by decide) ?_
    exact step_move (guard_none rfl) rfl _ rfl ((hF.other 19 rfl).trans S.v19)
  refine ⟨?_, ?_⟩
  · intro a w b1 b2 h1 h2 hI hF hd
    refine askM_d (by decide) (by decide) ?_
    have h108 : a.tmps.getD 108 undef = .int .i64 N := hd.1 rfl
    refine step_call (guard_none rfl) rfl _ _ (rf_call_run Try.func10 (by kernel_rfl) (by kernel_rfl) _ _ rfl) ?_
    simp only [List.map_toArray, List.map_cons, List.map_nil, Act.eval, h108]
    exact (num0_any _ _).mono (by rintro e w1 ⟨rfl, rfl⟩; exact ⟨_, rfl, Below.refl _ _, rfl⟩)
  refine ⟨?_, ?_⟩
  · intro a w b1 b2 h1 h2 hI hF hd
    refine askM_d (by decide) (by decide) ?_
    exact step_move (guard_none rfl) rfl _ rfl ((hF.other 9 rfl).trans S.v9)
  refine ⟨?_, ?_⟩
  · intro a w b1 b2 h1 h2 hI hF hd
    refine askM_d (by decide) (by decide) ?_
    exact step_move (guard_none rfl) rfl _ rfl ((hF.other 1 rfl).trans S.v1)
  refine ⟨?_, ?_⟩
  · intro a w b1 b2 h1 h2 hI hF hd
    refine askM_d (by decide) (by decide) ?_
    exact step_move (guard_none rfl) rfl _ rfl ((hF.other 11 rfl).trans S.v11)
  refine ⟨?_, ?_⟩
  · intro a w b1 b2 h1 h2 hI hF hd
    refine askM_d (by decide) (by decide) ?_
    exact step_move (guard_none rfl) rfl _ rfl ((hF.other 17 rfl).trans S.v17)
  refine ⟨?_, ?_⟩
  · intro a w b1 b2 h1 h2 hI hF hd
    refine askM_d (by decide) (by decide) ?_
    have h111 : a.tmps.getD 111 undef = .slice A n c := hd.1 rfl
    have h112 : a.tmps.getD 112 undef = .int .i64 i := hd.2.1 rfl
    have h113 : a.tmps.getD 113 undef = .int .i64 k := hd.2.2.1 rfl
    exact rf_part (guard_none rfl) rfl _ _ _ rfl h111 h112 h113 S.ik S.kc rfl
  refine ⟨?_, ?_⟩
  · intro a w b1 b2 h1 h2 hI hF hd
    refine askM_1 rfl ?_
    have h110 : a.tmps.getD 110 undef = .pointer (some ⟨y, 0, none⟩) := hd.1 rfl
    have h114 : a.tmps.getD 114 undef = .slice (partA A i c) (k - i) (c - i) := hd.2.1 rfl
    obtain ⟨rfl, rfl⟩ := h1 rfl
    refine stepL_call (guard_none rfl) rfl _ _ (rf_call_run Try.func16 (by kernel_rfl) (by kernel_rfl) _ _ rfl) ?_
    simp only [List.map_toArray, List.map_cons, List.map_nil, Act.eval, h110, h114]
    exact (rpush_any (partA A i c) (k - i) (c - i) zs hI.st.pre hI.st.2.2 S.far S.mm S.room (by have := S.small; omega)).mono (fun e w1 h => RpI.push hI S.eB S.nL S.far h S.eN S.eX)
  refine ⟨?_, ?_⟩
  · intro a w b1 b2 h1 h2 hI hF hd
    refine askM_d (by decide) (by decide) ?_
    have h109 : a.tmps.getD 109 undef = .int .i64 N := hd.1 rfl
    have h115 : a.tmps.getD 115 undef = .int .i64 N := hd.2.1 rfl
    exact rf_neq (guard_none rfl) rfl _ _ rfl _ _ h109 h115 false (by simp) rfl
  refine ⟨?_, ?_⟩
  · intro a w b1 b2 h1 h2 hI hF hd
    refine askM_d (by decide) (by decide) ?_
    have h116 : a.tmps.getD 116 undef = .bool false := hd.1 rfl
    exact step_move (guard_none rfl) rfl _ rfl h116
  refine ⟨?_, ?_⟩
  · intro a w b1 b2 h1 h2 hI hF hd
    refine askM_d (by decide) (by decide) ?_
    have h117 : a.tmps.getD 117 undef = .bool false := hd.1 rfl
    exact step_move (rf_open false rfl rfl h117) rfl _ rfl ((hF.other 18 rfl).trans S.v18)
  refine ⟨?_, ?_⟩
  · intro a w b1 b2 h1 h2 hI hF hd
    refine askM_d (by decide) (by decide) ?_
    have h117 : a.tmps.getD 117 undef = .bool false := hd.1 rfl
    exact step_move (rf_open false rfl rfl h117) rfl _ rfl ((hF.other 1 rfl).trans S.v1)
  refine ⟨?_, ?_⟩
  · intro a w b1 b2 h1 h2 hI hF hd
    refine askM_d (by decide) (by decide) ?_
    have h117 : a.tmps.getD 117 undef = .bool false := hd.1 rfl
    exact step_move (rf_open false rfl rfl h117) rfl _ rfl ((hF.other 11 rfl).trans S.v11)
  refine ⟨?_, ?_⟩
  · intro a w b1 b2 h1 h2 hI hF hd
    refine askM_d (by decide) (by decide) ?_
    have h117 : a.tmps.getD 117 undef = .bool false := hd.1 rfl
    exact step_move (rf_open false rfl rfl h117) rfl _ rfl ((hF.other 17 rfl).trans S.v17)
  refine ⟨?_, ?_⟩
  · intro a w b1 b2 h1 h2 hI hF hd
    refine askM_d (by decide) (by decide) ?_
    have h117 : a.tmps.getD 117 undef = .bool false := hd.2.2.2.1 rfl
    have h119 : a.tmps.getD 119 undef = .slice A n c := hd.1 rfl
    have h120 : a.tmps.getD 120 undef = .int .i64 i := hd.2.1 rfl
    have h121 : a.tmps.getD 121 undef = .int .i64 k := hd.2.2.1 rfl
    exact rf_part (rf_open false rfl rfl h117) rfl _ _ _ rfl h119 h120 h121 S.ik S.kc rfl
  refine ⟨?_, ?_⟩
  · intro a w b1 b2 h1 h2 hI hF hd
    refine askM_d (by decide) (by decide) ?_
    have h117 : a.tmps.getD 117 undef = .bool false := hd.2.2.1 rfl
    have h118 : a.tmps.getD 118 undef = .slice L (k - i) lc := hd.1 rfl
    have h122 : a.tmps.getD 122 undef = .slice (partA A i c) (k - i) (c - i) := hd.2.1 rfl
    refine step_call (rf_open false rfl rfl h117) rfl _ _ (rf_call_run Try.func17 (by kernel_rfl) (by kernel_rfl) _ _ rfl) ?_
    simp only [List.map_toArray, List.map_cons, List.map_nil, Act.eval, h118, h122]
    exact (keptitems_any L (partA A i c) (k - i) lc (c - i) zs base w hI.st.2.1 S.its.1 hI.st.2.2 (by have := S.small; omega)).mono (by rintro e w1 ⟨rfl, hb⟩; exact ⟨_, rfl, hb, rfl⟩)
  refine ⟨?_, ?_⟩
  · intro a w b1 b2 h1 h2 hI hF hd
    refine askM_d (by decide) (by decide) ?_
    have h117 : a.tmps.getD 117 undef = .bool false := hd.2.1 rfl
    have h123 : a.tmps.getD 123 undef = .bool true := hd.1 rfl
    exact step_not (rf_open false rfl rfl h117) rfl _ _ rfl h123 rfl
  trivial
set_option maxRecDepth 100000 in
theorem hhs19_any {Q : Exit → Act → World → Prop} {l : List Oper} (hl : opsOf 19 Try.f3 = l) (hend : ∀ w : World, MI hs (RpI hs B y m xs xs' base L lc zs (partA A i c) (k - i)) w0 true false w → wpList Try.prog l.toArray Q (l.drop 17) (putAll a0 [(108, .int .i64 N), (109, .int .i64 N), (110, .pointer (some ⟨y, 0, none⟩)), (111, .slice A n c), (112, .int .i64 i), (113, .int .i64 k), (114, .slice (partA A i c) (k - i) (c - i)), (115, .int .i64 N), (116, .bool false), (117, .bool false), (118, .slice L (k - i) lc), (119, .slice A n c), (120, .int .i64 i), (121, .int .i64 k), (122, .slice (partA A i c) (k - i) (c - i)), (123, .bool true), (124, .bool false)]) w) :
    (Code.region 19 l.toArray true).wp Try.prog Q a0 w0 := by
  subst hl
  refine region_two hs (RpI hs B y m xs xs' base L lc zs (partA A i c) (k - i)) 7 1000 (hhs19F _ _ _ _ _ _ _ _ _ _ _ _ _ _ _ _) hhs19D 17 159 S.size rfl (by kernel_rfl) (by kernel_rfl) (by kernel_rfl) (by omega) (by omega) (by kernel_rfl) (fun _ _ _ _ h hb => RpI.below h hb) (RpI.start S.rf S.own S.its) (hhs19F_mono _ _ _ _ _ _ _ _ _ _ _ _ _ _ _ _) (hhs19F_monoS) (hhs19_ok S) fun a w hI hF h => ?_
  have hv : valsAre a [(108, .int .i64 N), (109, .int .i64 N), (110, .pointer (some ⟨y, 0, none⟩)), (111, .slice A n c), (112, .int .i64 i), (113, .int .i64 k), (114, .slice (partA A i c) (k - i) (c - i)), (115, .int .i64 N), (116, .bool false), (117, .bool false), (118, .slice L (k - i) lc), (119, .slice A n c), (120, .int .i64 i), (121, .int .i64 k), (122, .slice (partA A i c) (k - i) (c - i)), (123, .bool true), (124, .bool false)] := by
    refine ⟨?_, ?_, ?_, ?_, ?_, ?_, ?_, ?_, ?_, ?_, ?_, ?_, ?_, ?_, ?_, ?_, ?_, trivial⟩
    · exact h 0 (some 108) (by omega) rfl
    · exact h 1 (some 109) (by omega) rfl
    · exact h 2 (some 110) (by omega) rfl
    · exact h 3 (some 111) (by omega) rfl
    · exact h 4 (some 112) (by omega) rfl
    · exact h 5 (some 113) (by omega) rfl
    · exact h 6 (some 114) (by omega) rfl
    · exact h 7 (some 115) (by omega) rfl
    · exact h 8 (some 116) (by omega) rfl
    · exact h 9 (some 117) (by omega) rfl
    · exact h 10 (some 118) (by omega) rfl
    · exact h 11 (some 119) (by omega) rfl
    · exact h 12 (some 120) (by omega) rfl
    · exact h 13 (some 121) (by omega) rfl
    · exact h 14 (some 122) (by omega) rfl
    · exact h 15 (some 123) (by omega) rfl
    · exact h 16 (some 124) (by omega) rfl
  rw [frame_is hF _ hv (by rfl) (by rfl)]
  exact hend w hI
end

def hhs25D : List (Option Tmp) := [some 139, some 140, some 141, some 142, some 143, some 144, some 145, some 146, some 147, some 148, some 149, some 150, some 151, some 152, some 153, some 154, some 155, some 156, some 157]
def hhs25F (g y _p1 _p2 nl d : Nat) (_m r : Int) (E : Option Addr) (x : It) : List Fact := [isV (.agg #[.int .i64 x.s, .int .i64 x.t, .int .i64 x.q, .int .i64 x.v]), isV (.agg #[.int .i64 x.s, .int .i64 x.t, .int .i64 x.q, .int .i64 x.v]), isV (.bool false), isV (.bool false), isV (.int .i64 r), isV (.int .i64 r), isV (.int .i64 r), isV (.bool false), isV (.bool false), isV (.bool false), isV (.pointer (some ⟨g, 0, none⟩)), isV (.int .i64 nl), isV (.pointer (some ⟨y, 0, none⟩)), isV (.pointer (some ⟨y, 0, none⟩)), isV (.pointer (some ⟨y, 1, none⟩)), isV (.slice E nl d), isV (.int .i64 nl), isV (.bool false), isV (.bool false)]
theorem hhs25F_mono (g y p1 p2 nl d : Nat) (m r : Int) (E : Option Addr) (x : It) : ∀ φ ∈ hhs25F g y p1 p2 nl d m r E x, Mono φ := by
  unfold hhs25F
  repeat (first | exact monos_nil | (refine monos_cons (mono_isV _) ?_))
structure hhs25S (g y p1 p2 nl d : Nat) (m r : Int) (E : Option Addr) (x : It) (a0 : Act) (w0 : World) : Prop where
  size : a0.tmps.size = 159
  v7 : a0.tmps.getD 7 undef = .pointer (some ⟨g, 0, none⟩)
  v9 : a0.tmps.getD 9 undef = .pointer (some ⟨y, 0, none⟩)
  v20 : a0.tmps.getD 20 undef = .pointer (some ⟨p1, 0, none⟩)
  v21 : a0.tmps.getD 21 undef = .int .i64 r
  v22 : a0.tmps.getD 22 undef = .pointer (some ⟨p2, 0, none⟩)
  v23 : a0.tmps.getD 23 undef = .int .i64 r
  b1 : Has w0 p1 34 #[.int .i64 x.s, .int .i64 x.t, .int .i64 x.q, .int .i64 x.v]
  b2 : Has w0 p2 34 #[.int .i64 x.s, .int .i64 x.t, .int .i64 x.q, .int .i64 x.v]
  st : Has w0 y 47 (hpC m E nl d)
  ln : ∀ w, Below w0.heap.size w0 w → Calls Try.prog 21 #[.pointer (some ⟨g, 0, none⟩)] w fun e w2 => e = .returned (.int .i64 nl) ∧ w = w2
section
variable {g y p1 p2 nl d : Nat} {m r : Int} {E : Option Addr} {x : It} {a0 : Act} {w0 : World} (S : hhs25S g y p1 p2 nl d m r E x a0 w0)
include S
set_option maxRecDepth 100000 in
set_option maxHeartbeats 8000000 in
theorem hhs25_ok : AllOps (fun j o => ∀ (a : Act) (w : World), Below w0.heap.size w0 w → FrD hhs25D a0 a → needs hhs25D (hhs25F g y p1 p2 nl d m r E x) a w o.after.toList → StepD Try.prog hhs25D (factAt (hhs25F g y p1 p2 nl d m r E x) j) o a w) 0 (opsOf 25 Try.f3) := by
  simp only [opsOf, Try.f3, opsAt, Option.bind, Option.or, Option.getD, reduceCtorEq, if_true, if_false, Nat.reduceEqDiff]
  refine ⟨?_, ?_⟩
  · intro _a _w hB hF _hd
    exact rf_loadS (guard_none rfl) rfl _ _ rfl _ _ ((hF.other 20 rfl).trans S.v20) _ (rf_range (S.b1.below hB S.b1.lt)) Try.underlying34 rfl (by kernel_rfl) rfl
  refine ⟨?_, ?_⟩
  · intro _a _w hB hF _hd
    exact rf_loadS (guard_none rfl) rfl _ _ rfl _ _ ((hF.other 22 rfl).trans S.v22) _ (rf_range (S.b2.below hB S.b2.lt)) Try.underlying34 rfl (by kernel_rfl) rfl
  refine ⟨?_, ?_⟩
  · intro a _w _hB _hF hd
    have h139 : a.tmps.getD 139 undef = .agg #[.int .i64 x.s, .int .i64 x.t, .int .i64 x.q, .int .i64 x.v] := hd.1 rfl
    have h140 : a.tmps.getD 140 undef = .agg #[.int .i64 x.s, .int .i64 x.t, .int .i64 x.q, .int .i64 x.v] := hd.2.1 rfl
    exact rf_neqI (guard_none rfl) rfl _ _ rfl x h139 h140 rfl
  refine ⟨?_, ?_⟩
  · intro a _w _hB _hF hd
    have h141 : a.tmps.getD 141 undef = .bool false := hd.1 rfl
    exact step_move (guard_none rfl) rfl _ rfl h141
  refine ⟨?_, ?_⟩
  · intro a _w _hB hF hd
    have h142 : a.tmps.getD 142 undef = .bool false := hd.1 rfl
    exact step_move (rf_open false rfl rfl h142) rfl _ rfl ((hF.other 21 rfl).trans S.v21)
  refine ⟨?_, ?_⟩
  · intro a _w _hB _hF hd
    have h142 : a.tmps.getD 142 undef = .bool false := hd.2.1 rfl
    have h143 : a.tmps.getD 143 undef = .int .i64 r := hd.1 rfl
    refine step_call (rf_open false rfl rfl h142) rfl _ _ (rf_call_run Try.func10 (by kernel_rfl) (by kernel_rfl) _ _ rfl) ?_
    simp only [List.map_toArray, List.map_cons, List.map_nil, Act.eval, h143]
    exact (num0_any _ _).mono (by rintro e w1 ⟨rfl, rfl⟩; exact ⟨_, rfl, Below.refl _ _, rfl⟩)
  refine ⟨?_, ?_⟩
  · intro a _w _hB hF hd
    have h142 : a.tmps.getD 142 undef = .bool false := hd.1 rfl
    exact step_move (rf_open false rfl rfl h142) rfl _ rfl ((hF.other 23 rfl).trans S.v23)
  refine ⟨?_, ?_⟩
  · intro a _w _hB _hF hd
    have h142 : a.tmps.getD 142 undef = .bool false := hd.2.2.1 rfl
    have h144 : a.tmps.getD 144 undef = .int .i64 r := hd.1 rfl
    have h145 : a.tmps.getD 145 undef = .int .i64 r := hd.2.1 rfl
    exact rf_neq (rf_open false rfl rfl h142) rfl _ _ rfl _ _ h144 h145 false (by simp) rfl
  refine ⟨?_, ?_⟩
  · intro a _w _hB _hF hd
    have h142 : a.tmps.getD 142 undef = .bool false := hd.1 rfl
    have h146 : a.tmps.getD 146 undef = .bool false := hd.2.1 rfl
    exact rf_pick (guard_none rfl) rfl _ _ _ rfl false h142 h146
  refine ⟨?_, ?_⟩
  · intro a _w _hB _hF hd
    have h147 : a.tmps.getD 147 undef = .bool false := hd.1 rfl
    exact step_move (guard_none rfl) rfl _ rfl h147
  refine ⟨?_, ?_⟩
  · intro a _w _hB hF hd
    have h148 : a.tmps.getD 148 undef = .bool false := hd.1 rfl
    exact step_move (rf_open false rfl rfl h148) rfl _ rfl ((hF.other 7 rfl).trans S.v7)
  refine ⟨?_, ?_⟩
  · intro a w hB _hF hd
    have h148 : a.tmps.getD 148 undef = .bool false := hd.2.1 rfl
    have h149 : a.tmps.getD 149 undef = .pointer (some ⟨g, 0, none⟩) := hd.1 rfl
    refine step_call (rf_open false rfl rfl h148) rfl _ _ (rf_call_run Try.func21 (by kernel_rfl) (by kernel_rfl) _ _ rfl) ?_
    simp only [List.map_toArray, List.map_cons, List.map_nil, Act.eval, h149]
    exact (S.ln w hB).mono (by rintro e w1 ⟨rfl, rfl⟩; exact ⟨_, rfl, Below.refl _ _, rfl⟩)
  refine ⟨?_, ?_⟩
  · intro a _w _hB hF hd
    have h148 : a.tmps.getD 148 undef = .bool false := hd.1 rfl
    exact step_move (rf_open false rfl rfl h148) rfl _ rfl ((hF.other 9 rfl).trans S.v9)
  refine ⟨?_, ?_⟩
  · intro a _w _hB _hF hd
    have h148 : a.tmps.getD 148 undef = .bool false := hd.2.1 rfl
    have h151 : a.tmps.getD 151 undef = .pointer (some ⟨y, 0, none⟩) := hd.1 rfl
    exact rf_nilck (rf_open false rfl rfl h148) rfl _ rfl _ h151 rfl
  refine ⟨?_, ?_⟩
  · intro a _w _hB _hF hd
    have h148 : a.tmps.getD 148 undef = .bool false := hd.2.1 rfl
    have h152 : a.tmps.getD 152 undef = .pointer (some ⟨y, 0, none⟩) := hd.1 rfl
    exact rf_faddr (rf_open false rfl rfl h148) rfl _ _ _ rfl _ _ 1 _ h152 (by omega) (fun _ _ => by kernel_rfl) rfl
  refine ⟨?_, ?_⟩
  · intro a _w hB _hF hd
    have h148 : a.tmps.getD 148 undef = .bool false := hd.2.1 rfl
    have h153 : a.tmps.getD 153 undef = .pointer (some ⟨y, 1, none⟩) := hd.1 rfl
    exact rf_load1 (rf_open false rfl rfl h148) rfl _ _ rfl _ _ h153 (run_ldIt ((Has.cell (S.st.below hB S.st.lt) 1).trans rfl)) rfl
  refine ⟨?_, ?_⟩
  · intro a _w _hB _hF hd
    have h148 : a.tmps.getD 148 undef = .bool false := hd.2.1 rfl
    have h154 : a.tmps.getD 154 undef = .slice E nl d := hd.1 rfl
    exact rf_len (rf_open false rfl rfl h148) rfl _ _ rfl Try.underlying22 _ _ _ h154 rfl
  refine ⟨?_, ?_⟩
  · intro a _w _hB _hF hd
    have h148 : a.tmps.getD 148 undef = .bool false := hd.2.2.1 rfl
    have h150 : a.tmps.getD 150 undef = .int .i64 nl := hd.1 rfl
    have h155 : a.tmps.getD 155 undef = .int .i64 nl := hd.2.1 rfl
    exact rf_neq (rf_open false rfl rfl h148) rfl _ _ rfl _ _ h150 h155 false (by simp) rfl
  refine ⟨?_, ?_⟩
  · intro a _w _hB _hF hd
    have h148 : a.tmps.getD 148 undef = .bool false := hd.1 rfl
    have h156 : a.tmps.getD 156 undef = .bool false := hd.2.1 rfl
    exact rf_pick (guard_none rfl) rfl _ _ _ rfl false h148 h156
  trivial
theorem hhs25_any {Q : Exit → Act → World → Prop} {l : List Oper} (hl : opsOf 25 Try.f3 = l) (hend : ∀ w : World, Below w0.heap.size w0 w → Q .normal (putAll a0 [(139, .agg #[.int .i64 x.s, .int .i64 x.t, .int .i64 x.q, .int .i64 x.v]), (140, .agg #[.int .i64 x.s, .int .i64 x.t, .int .i64 x.q, .int .i64 x.v]), (141, .bool false), (142, .bool false), (143, .int .i64 r), (144, .int .i64 r), (145, .int .i64 r), (146, .bool false), (147, .bool false), (148, .bool false), (149, .pointer (some ⟨g, 0, none⟩)), (150, .int .i64 nl), (151, .pointer (some ⟨y, 0, none⟩)), (152, .pointer (some ⟨y, 0, none⟩)), (153, .pointer (some ⟨y, 1, none⟩)), (154, .slice E nl d), (155, .int .i64 nl), (156, .bool false), (157, .bool false)]) w) :
    (Code.region 25 l.toArray true).wp Try.prog Q a0 w0 := by
  subst hl
  refine region_facts2 (hhs25F g y p1 p2 nl d m r E x) hhs25D 159 S.size rfl (by kernel_rfl) (by kernel_rfl) (hhs25F_mono _ _ _ _ _ _ _ _ _ _) (hhs25_ok S) fun a w hB hF h => ?_
  have hv : valsAre a [(139, .agg #[.int .i64 x.s, .int .i64 x.t, .int .i64 x.q, .int .i64 x.v]), (140, .agg #[.int .i64 x.s, .int .i64 x.t, .int .i64 x.q, .int .i64 x.v]), (141, .bool false), (142, .bool false), (143, .int .i64 r), (144, .int .i64 r), (145, .int .i64 r), (146, .bool false), (147, .bool false), (148, .bool false), (149, .pointer (some ⟨g, 0, none⟩)), (150, .int .i64 nl), (151, .pointer (some ⟨y, 0, none⟩)), (152, .pointer (some ⟨y, 0, none⟩)), (153, .pointer (some ⟨y, 1, none⟩)), (154, .slice E nl d), (155, .int .i64 nl), (156, .bool false), (157, .bool false)] := by
    refine ⟨?_, ?_, ?_, ?_, ?_, ?_, ?_, ?_, ?_, ?_, ?_, ?_, ?_, ?_, ?_, ?_, ?_, ?_, ?_, trivial⟩
    · exact h 0 (some 139) rfl
    · exact h 1 (some 140) rfl
    · exact h 2 (some 141) rfl
    · exact h 3 (some 142) rfl
    · exact h 4 (some 143) rfl
    · exact h 5 (some 144) rfl
    · exact h 6 (some 145) rfl
    · exact h 7 (some 146) rfl
    · exact h 8 (some 147) rfl
    · exact h 9 (some 148) rfl
    · exact h 10 (some 149) rfl
    · exact h 11 (some 150) rfl
    · exact h 12 (some 151) rfl
    · exact h 13 (some 152) rfl
    · exact h 14 (some 153) rfl
    · exact h 15 (some 154) rfl
    · exact h 16 (some 155) rfl
    · exact h 17 (some 156) rfl
    · exact h 18 (some 157) rfl
  rw [frame_is hF _ hv (by rfl) (by rfl)]
  exact hend w hB
end

end Go.Proofs.Ytmhmekmacdkdgaa

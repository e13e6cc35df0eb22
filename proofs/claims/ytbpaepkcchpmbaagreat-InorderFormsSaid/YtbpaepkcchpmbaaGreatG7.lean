import Derived.Test.YtbpaepkcchpmbaaGreatG0
import Derived.Test.YtbpaepkcchpmbaaGreatProg
import Derived.OwnWalk
import Derived.Lib.Hide
import Derived.Deep.MidRow
import Derived.BigQuiet
import Derived.Deep.QuietTactic
import Derived.Test.YtbpaepkcchpmbaaGreatG6
import Derived.Lib.LazyBuf
namespace Go.Proofs.YtbpaepkcchpmbaaGreat
open Go.RowKit
def intL (xs : List Int) : List Value := xs.map (Value.int .i64)
def OwnI (w : World) (base : Nat) (v : Value) (xs : List Int) : Prop := w.ownsRow base 3 1 v xs.length (intL xs)
set_option maxRecDepth 100000 in
theorem OwnI.nil (w : World) (base : Nat) : OwnI w base (.slice none 0 0) [] := World.ownsRow_nil _ _ _ _
set_option maxRecDepth 100000 in
theorem OwnI.form {w : World} {base : Nat} {v : Value} {xs : List Int} (h : OwnI w base v xs) : ∃ A c, v = .slice A xs.length c ∧ xs.length ≤ c ∧ c ≤ maxLen ∧ (∀ ad, A = some ad → base ≤ ad.block) := by
  rcases h.2 with ⟨e, h0⟩ | ⟨g, cap, cur, e, hg, _, hc1, hc2, _⟩
  · exact ⟨none, 0, by rw [e, h0], by omega, Nat.zero_le _, fun ad h => by cases h⟩
  · exact ⟨some ⟨g, 0, none⟩, cap, e, hc1, hc2, fun ad h => by injection h with h; subst h; exact hg⟩
set_option maxRecDepth 100000 in
theorem OwnI.ints {w : World} {base : Nat} {A : Option Addr} {n c : Nat} {xs : List Int} (h : OwnI w base (.slice A n c) xs) : Ints w A n xs := by
  rcases h.2 with ⟨e, h0⟩ | ⟨g, cap, cur, e, hg, hh, hn, hc, hs, ht⟩
  · injection e with e1 e2 e3
    subst e2
    exact ⟨h0, fun h => absurd h (by omega)⟩
  · injection e with e1 e2 e3
    subst e1; subst e2; subst e3
    refine ⟨rfl, fun hpos => ⟨g, 0, rfl, fun k hk => ?_⟩⟩
    rw [Nat.zero_add, World.ownsRow.cellAt h k (by omega)]
    simp [intL, nth, hk]
set_option maxRecDepth 100000 in
theorem OwnI.mono {w : World} {base base' : Nat} {v : Value} {xs : List Int} (h : OwnI w base v xs) (hb : base' ≤ base) : OwnI w base' v xs := by
  refine ⟨h.1, ?_⟩
  rcases h.2 with h0 | ⟨g, cap, cur, e, hg, r⟩
  · exact .inl h0
  · exact .inr ⟨g, cap, cur, e, Nat.le_trans hb hg, r⟩
set_option maxRecDepth 100000 in
theorem OwnI.new {w : World} {base : Nat} {A : Option Addr} {n c : Nat} {xs : List Int} (h : OwnI w base (.slice A n c) xs) : ∀ ad, A = some ad → base ≤ ad.block := by
  obtain ⟨A', c', e, _, _, h4⟩ := h.form
  injection e with e1 e2 e3
  subst e1
  exact h4
set_option maxRecDepth 100000 in
theorem OwnI.below {w w' : World} {base : Nat} {v : Value} {xs : List Int} (h : OwnI w base v xs) (hb : Below w.heap.size w w') : OwnI w' base v xs :=
  World.ownsRow.kept h (row := none) ⟨hb.os, hb.tape, hb.output, hb.size, fun k hk _ => hb.block k hk⟩ (by
    cases e : v.ownBlock with
    | none => exact .inl rfl
    | some k => exact .inr (by simp))
set_option maxRecDepth 100000 in
theorem OwnI.apart {w : World} {base : Nat} {v : Value} {l : List Int} (h : OwnI w base v l) {k : Nat} {t : TypeId} {cs : Array Value} (hh : Has w k t cs) (ht : t ≠ 3) : v.ownBlock ≠ some k := by
  rcases h.2 with ⟨e, _⟩ | ⟨g, cap, cur, e, hg, hr, _⟩
  · rw [e]; simp [Value.ownBlock]
  · rw [e]
    intro hk
    obtain rfl : g = k := by simpa [Value.ownBlock] using hk
    unfold Has at hh
    rw [hr] at hh
    simp only [Option.some.injEq, Obj.cells.injEq] at hh
    exact ht hh.2.1.symm
set_option maxRecDepth 100000 in
theorem OwnI.kept1 {w w' : World} {base : Nat} {v : Value} {xs : List Int} (h : OwnI w base v xs) {k : Nat} {t : TypeId} {cs : Array Value} (hh : Has w k t cs) (ht : t ≠ 3)
    (os : w'.os = w.os) (tape : w'.tape = w.tape) (output : w'.output = w.output) (size : w'.heap.size = w.heap.size) (other : ∀ j, j ≠ k → w'.heap[j]? = w.heap[j]?) : OwnI w' base v xs :=
  World.ownsRow.kept h (row := some k) ⟨os, tape, output, Nat.le_of_eq size.symm, fun j _ hne => other j (fun e => hne (by rw [e]))⟩ (by
    cases e : v.ownBlock with
    | none => exact .inl rfl
    | some j => exact .inr (fun e2 => h.apart hh ht (by rw [e, ← e2])))
set_option maxRecDepth 100000 in
theorem OwnI.row {w : World} {base : Nat} {v : Value} {xs : List Int} (h : OwnI w base v xs) {k : Nat} {t : TypeId} {cs : Array Value} (hh : Has w k t cs) (ht : t ≠ 3) (cs' : Array Value) : OwnI (w.setRow k cs') base v xs :=
  h.kept1 hh ht rfl rfl rfl (by simp) (fun j hj => setRow_other w k j cs' hj)
set_option maxRecDepth 100000 in
theorem OwnI.set {w : World} {base : Nat} {v : Value} {xs : List Int} (h : OwnI w base v xs) {k : Nat} {t : TypeId} {cs : Array Value} (hh : Has w k t cs) (ht : t ≠ 3) (i : Nat) (u : Value) : OwnI (w.setCell ⟨k, i, none⟩ u) base v xs :=
  h.kept1 hh ht rfl rfl rfl (by simp [World.setCell]) (fun j hj => heap_setCell_other _ _ _ _ hj)
end Go.Proofs.YtbpaepkcchpmbaaGreat
namespace Go.Proofs.YtbpaepkcchpmbaaGreat
open Go.RowKit
theorem OwnI.rowL {w : World} {base g : Nat} {v : Value} {xs : List Int} (h : OwnI w base v xs) (hg : g < base) (cs : Array Value) : OwnI (w.setRow g cs) base v xs :=
  World.ownsRow.kept h (row := some g) ⟨rfl, rfl, rfl, by simp, fun k _ hne => setRow_other w g k cs (fun e => hne (by rw [e]))⟩ (by
    cases e : v.ownBlock with
    | none => exact .inl rfl
    | some k =>
      refine .inr (fun e2 => ?_)
      obtain ⟨A, c, rfl, _, _, h3⟩ := h.form
      cases A with
      | none => simp [Value.ownBlock] at e
      | some ad =>
        simp [Value.ownBlock] at e
        have := h3 ad rfl
        injection e2 with e2
        omega)
theorem cell_setRow_far {w : World} {g : Nat} {cs : Array Value} {p : Addr} (h : p.block ≠ g) : (w.setRow g cs).cell? p = w.cell? p := by
  unfold World.cell?
  rw [setRow_other w g p.block cs h]
theorem Ints.row {w : World} {A : Option Addr} {n : Nat} {xs : List Int} (h : Ints w A n xs) {g : Nat} (hg : ∀ ad, A = some ad → ad.block ≠ g) (cs : Array Value) : Ints (w.setRow g cs) A n xs :=
  ⟨h.1, fun hn => by
    obtain ⟨b, o, e, hc⟩ := h.2 hn
    exact ⟨b, o, e, fun k hk => (cell_setRow_far (p := ⟨b, o + k, none⟩) (show b ≠ g from hg _ e)).trans (hc k hk)⟩⟩
structure AccIn (w : World) (B : Nat) (a : Ac) (A : Option Addr) (n c : Nat) : Prop where
  hist : Ints w A n a.h
  cap : n ≤ c
  most : c ≤ maxLen
  new : ∀ ad, A = some ad → B ≤ ad.block
  typ : ∀ ad, A = some ad → ∃ cs, Has w ad.block 3 cs
def FoldAcc (a : Ac) (w : World) (e : Ending) (w' : World) : Prop :=
  ∃ A n c, e = .returned (accV a A n c) ∧ AccIn w' w.heap.size a A n c ∧ Below w.heap.size w w'
theorem ret_row1 {P : Program} {fn : Func} {p : Tmp} {ty : TypeId} (h : fn.results = #[.cell p ty]) (tmps : Array Value) (w : World) (g : Nat) (t : TypeId) (cs : Array Value) (d : TypeDesc)
    (hp : tmps.getD p undef = .pointer (some ⟨g, 0, none⟩)) (hg : Has w g t cs) (hu : P.underlying ty = some d) (hd : (match d with | .struct _ | .array _ _ => true | _ => false) = true) (hi : (P.info? ty).map (·.size) = some cs.size) :
    (results fn tmps).run P w = .ok (.agg cs) w := by
  have hp' : tmps[p]?.getD undef = .pointer (some ⟨g, 0, none⟩) := by simpa using hp
  simp [results, h, hp', asAddr, run_loadVar_row w g t ty cs (0, 0) d hg hu hd hi]
end Go.Proofs.YtbpaepkcchpmbaaGreat
namespace Go.Proofs.YtbpaepkcchpmbaaGreat
open Go.RowKit
theorem isum_one (n : Nat) {k : Nat} (hk : k < n) : isum ((List.replicate n 0).set k 1) = 1 := by
  have h0 : ∀ n : Nat, isum (List.replicate n 0) = 0 := fun n => by induction n with
    | zero => rfl
    | succ n ih => simp only [List.replicate_succ, isum, ih]; rfl
  induction n generalizing k with
  | zero => omega
  | succ n ih =>
    cases k with
    | zero => simp only [List.replicate_succ, List.set_cons_zero, isum, h0]; rfl
    | succ k =>
      have := ih (k := k) (by omega)
      simp only [List.replicate_succ, List.set_cons_succ, isum, this]; rfl
theorem one_fit {x : It} {bs : List Int} (hx : itemB x = true) : fitB (oneAc x bs) (bs.length + 1) = true := by
  have hk : bkt bs x.v < bs.length + 1 := by have := bkt_le bs x.v; omega
  have hr : ∀ i, i < bs.length + 1 → 0 ≤ nth ((List.replicate (bs.length + 1) 0).set (bkt bs x.v) 1) i ∧ nth ((List.replicate (bs.length + 1) 0).set (bkt bs x.v) 1) i ≤ 8192 := fun i hi => by
    by_cases e : bkt bs x.v = i
    · subst e
      have e2 : nth ((List.replicate (bs.length + 1) 0).set (bkt bs x.v) 1) (bkt bs x.v) = 1 := by simp [nth, hi]
      omega
    · have e2 : nth ((List.replicate (bs.length + 1) 0).set (bkt bs x.v) 1) i = 0 := by simp [nth, e, hi]
      omega
  have hv := itemB_iff.1 hx
  have e1 : wi (oneAc x bs).n 0 8192 = true := wi_mk (by simp only [oneAc]; omega)
  have e2 : histB (oneAc x bs) (bs.length + 1) = true := decide_eq_true ⟨by simp [oneAc], fun i hi => hr i (by simpa [oneAc] using hi), isum_one _ hk⟩
  have e3 : endsB (oneAc x bs) = true := decide_eq_true ⟨hx, hx, rfl, by simp [oneAc, beforeB]⟩
  have e4 : valsB (oneAc x bs) = true := decide_eq_true (by simp only [oneAc]; omega)
  have e5 : ¬ (oneAc x bs).n = 0 := by simp only [oneAc]; decide
  unfold fitB
  rw [e1, e2, e3, e4, if_neg e5]
  rfl
theorem start_fit (bs : List Int) : fitB (startJ bs) (bs.length + 1) = true := by
  have hr : ∀ i, i < bs.length + 1 → nth (List.replicate (bs.length + 1) 0) i = 0 := fun i hi => by simp [nth, hi]
  have h0 : ∀ n : Nat, isum (List.replicate n 0) = 0 := fun n => by induction n with
    | zero => rfl
    | succ n ih => simp only [List.replicate_succ, isum, ih]; rfl
  have e2 : histB (startJ bs) (bs.length + 1) = true := decide_eq_true ⟨by simp [startJ], fun i hi => by
    have := hr i (by simpa [startJ] using hi)
    simp only [startJ]; omega, h0 _⟩
  have e3 : zeroB (startJ bs) = true := decide_eq_true (by simp [startJ, zeroIt])
  have e1 : wi (startJ bs).n 0 8192 = true := wi_mk (by simp only [startJ]; omega)
  have e5 : (startJ bs).n = 0 := rfl
  unfold fitB
  rw [e1, e2, if_pos e5, e3]
  rfl
def ones (bs : List Int) (xs : List It) : List Ac := xs.map (oneAc · bs)
def foldTo (bs : List Int) (xs : List It) (j : Nat) : Ac := joinTo (bs.length + 1) (ones bs xs) j
def foldA (bs : List Int) (xs : List It) : Ac := joinAc bs (ones bs xs)
theorem foldTo_zero (bs : List Int) (xs : List It) : foldTo bs xs 0 = startJ bs := rfl
end Go.Proofs.YtbpaepkcchpmbaaGreat
namespace Go.Proofs.YtbpaepkcchpmbaaGreat
open Go.RowKit
theorem has3 (w : World) (x y : Obj) (t : TypeId) (cs : Array Value) : Has (((w.alloc x).alloc y).alloc (.cells cs t)) (w.heap.size + 1 + 1) t cs := by
  have h := Has.made ((w.alloc x).alloc y) t cs
  have e : ((w.alloc x).alloc y).heap.size = w.heap.size + 1 + 1 := by simp
  rw [e] at h
  exact h
theorem below3 (w : World) (x y z : Obj) : Below w.heap.size w (((w.alloc x).alloc y).alloc z) := below_alloc (below_alloc (below_alloc (Below.refl _ _) (Nat.le_refl _) _) (Nat.le_refl _) _) (Nat.le_refl _) _
theorem own_empty (w : World) : OwnI (w.alloc (.cells #[] 3)) w.heap.size (.slice (some ⟨w.heap.size, 0, none⟩) 0 0) [] :=
  ⟨rfl, Or.inr ⟨w.heap.size, 0, #[], rfl, Nat.le_refl _, Has.made w 3 #[], Nat.le_refl _, Nat.zero_le _, rfl, rfl⟩⟩
theorem app_ints {ops : Array Oper} {rest : List Oper} {op : Oper} {p : Act} {w : World} {Q : Exit → Act → World → Prop} (hgd : op.guard = none) (s x : Operand)
    (ho : op.op = .call { callee := .builtin .append, args := #[s, x], argTypes := #[57, 57] })
    {base b o n c : Nat} {v : Value} {ys : List Int} (hs : p.eval s = v) (hown : OwnI w base v []) (hx : p.eval x = .slice (some ⟨b, o, none⟩) n c) (hy : Ints w (some ⟨b, o, none⟩) n ys)
    (hn0 : 0 < n) (hn : n ≤ 8192) (hbase : base ≤ w.heap.size)
    (h : ∀ A c' w', OwnI w' base (.slice A n c') ys → Below base w w' → wpList Tryz.prog ops Q rest (p.put op.dst (.slice A n c')) w') : wpList Tryz.prog ops Q (op :: rest) p w := by
  obtain ⟨i0, hi, hz, hs0, hy0⟩ := info_parts Tryz.infoInt
  have hl := hy.1
  obtain ⟨b', o', e, hc⟩ := hy.at_ hn0
  injection e with e
  injection e with e1 e2
  subst e1 e2
  refine wpList_append_own w hgd s x 57 ho base 3 i0 _ 1 8 Tryz.underlying57 hi hz hs0 hy0 rfl (by omega) v 0 [] hs hown ⟨b, o, none⟩ n c (intL ys) hx (by simp [intL, hl])
    (fun j u hu => ?_) (fun u hu => ?_) (by unfold maxLen; omega) (by omega) hbase (fun v' w' h1 h2 _ => ?_)
  · have hj : j < n := by have := (List.getElem?_eq_some_iff.1 hu).1; simpa [intL, hl] using this
    rw [Addr.add_mid, hc j hj, ← hu]
    simp [intL, nth, hl, hj]
  · obtain ⟨z, _, rfl⟩ := List.mem_map.1 hu
    rfl
  · have h3 : OwnI w' base v' ys := by unfold OwnI; rw [hl]; simpa using h1
    obtain ⟨A, c', rfl, _⟩ := h3.form
    rw [hl] at h3 ⊢
    refine h A c' w' h3 ⟨h2.os, h2.tape, h2.output, h2.size, fun k hk => h2.block k (by omega) (fun e => ?_)⟩
    have := World.ownsRow.lt hown k e.symm
    omega
end Go.Proofs.YtbpaepkcchpmbaaGreat

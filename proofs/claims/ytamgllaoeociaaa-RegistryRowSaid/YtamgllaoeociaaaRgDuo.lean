/-
  Both registries beside one another, while the reference's is written.
-/
import Derived.Test.YtamgllaoeociaaaRgRef
namespace Go.Proofs.Ytamgllaoeociaaa
open Go.RowKit

/-- The program's registry holds ids'; the reference's holds ids, or ids' once its Add has run (p). -/
def DuoI (rs hs : List Nat) (B g y : Nat) (m : Int) (ids ids' : List Int) : Bool → Bool → World → Prop := fun p _ w =>
  Reg w rs g m ids' ∧ (if p = true then ∃ hs', Ref w hs' y m ids' ∧ ∀ k ∈ hs', k ∈ hs ∨ B ≤ k else Ref w hs y m ids)
section
variable {rs hs : List Nat} {B g y : Nat} {m r : Int} {ids ids' : List Int} {w w' w0 : World} {p q : Bool}
theorem DuoI.below (h : DuoI rs hs B g y m ids ids' p q w) (hb : Below w.heap.size w w') : DuoI rs hs B g y m ids ids' p q w' := by
  refine ⟨h.1.below hb, ?_⟩
  have h2 := h.2
  cases p with
  | true =>
    rw [if_pos rfl] at h2 ⊢
    obtain ⟨hs', h3, h4⟩ := h2
    exact ⟨hs', h3.below hb, h4⟩
  | false =>
    rw [if_neg (by simp)] at h2 ⊢
    exact h2.below hb
theorem DuoI.pre (h : DuoI rs hs B g y m ids ids' false q w) : Ref w hs y m ids := by have := h.2; rwa [if_neg (by simp)] at this
theorem DuoI.post (h : DuoI rs hs B g y m ids ids' true q w) : ∃ hs', Ref w hs' y m ids' ∧ ∀ k ∈ hs', k ∈ hs ∨ B ≤ k := by have := h.2; rwa [if_pos rfl] at this
theorem DuoI.start (h1 : Reg w rs g m ids') (h2 : Ref w hs y m ids) : DuoI rs hs B g y m ids ids' false q w := ⟨h1, by rw [if_neg (by simp)]; exact h2⟩
theorem DuoI.add {e : Ending} {r' : Int} {ids'' : List Int} (hI : MI hs (DuoI rs hs B g y m ids ids') w0 false q w) (hB : w0.heap.size = B) (hd : ∀ k ∈ rs, k ∉ hs) (h : AddO (fun w gs ids => Ref w gs y m ids) hs r' ids'' e w w') (hr : r' = r) (hi : ids'' = ids') :
    ∃ v, e = .returned v ∧ ButS hs w w' ∧ MI hs (DuoI rs hs B g y m ids ids') w0 true false w' ∧ v = .int .i64 r := by
  subst hr hi
  obtain ⟨rfl, hs', h1, h2, h3⟩ := h
  refine ⟨_, rfl, h2, ⟨hI.gr.trans h2, hI.st.1.butS h2 hd, ?_⟩, rfl⟩
  rw [if_pos rfl]
  refine ⟨hs', h1, fun k hk => ?_⟩
  have := hI.gr.size
  rcases h3 k hk with h4 | h4
  · exact .inl h4
  · exact .inr (by omega)
end
theorem cell_butS {gs : List Nat} {w w' : World} {b o : Nat} {v : Value} (h : w.cell? ⟨b, o, none⟩ = some v) (hb : ButS gs w w') (hn : b ∉ gs) : w'.cell? ⟨b, o, none⟩ = some v :=
  (World.cell?_of_block (w := w) (w' := w') (a := ⟨b, o, none⟩) (hb.other b (block_lt_of_cell h) hn)).trans h

theorem OwnI.same {w w' : World} {base : Nat} {v : Value} {xs : List Int} (h : OwnI w base v xs) (hk : ∀ k, v.ownBlock = some k → w'.heap[k]? = w.heap[k]?) : OwnI w' base v xs := by
  refine ⟨h.1, ?_⟩
  rcases h.2 with h0 | ⟨g, cap, cur, e, hg, hh, r⟩
  · exact .inl h0
  · refine .inr ⟨g, cap, cur, e, hg, ?_, r⟩
    rw [hk g (by rw [e]; rfl)]
    exact hh
theorem Reg.same {w w' : World} {gs : List Nat} {g : Nat} {m : Int} {ids : List Int} (h : Reg w gs g m ids) (hk : ∀ k ∈ gs, w'.heap[k]? = w.heap[k]?) (hs : w.heap.size ≤ w'.heap.size) : Reg w' gs g m ids := by
  obtain ⟨A, c, mp, D, h⟩ := h
  refine ⟨A, c, mp, D, (hk g h.inG).trans h.st, h.own.same (fun k e => hk k (h.own.blk h.inA k e)), ?_, h.keys, h.inG, h.inM, h.inA, h.nil, fun k hk => Nat.lt_of_lt_of_le (h.lt k hk) hs⟩
  obtain ⟨es, clock, hm, r⟩ := h.map
  exact ⟨es, clock, (hk mp h.inM).trans hm, r⟩
theorem Ref.same {w w' : World} {gs : List Nat} {g : Nat} {m : Int} {ids : List Int} (h : Ref w gs g m ids) (hk : ∀ k ∈ gs, w'.heap[k]? = w.heap[k]?) (hs : w.heap.size ≤ w'.heap.size) : Ref w' gs g m ids := by
  obtain ⟨A, c, h⟩ := h
  exact ⟨A, c, (hk g h.inG).trans h.st, h.own.same (fun k e => hk k (h.own.blk h.inA k e)), h.inG, h.inA, fun k hk => Nat.lt_of_lt_of_le (h.lt k hk) hs⟩
theorem Reg.lt {w : World} {gs : List Nat} {g : Nat} {m : Int} {ids : List Int} (h : Reg w gs g m ids) : ∀ k ∈ gs, k < w.heap.size := by
  obtain ⟨A, c, mp, D, h⟩ := h
  exact h.lt
theorem Ref.lt {w : World} {gs : List Nat} {g : Nat} {m : Int} {ids : List Int} (h : Ref w gs g m ids) : ∀ k ∈ gs, k < w.heap.size := by
  obtain ⟨A, c, h⟩ := h
  exact h.lt
/-- Both registries hold the same ids, each in blocks of its own that were made since w0. -/
structure DuoS (w0 : World) (g y : Nat) (m : Int) (rs hs : List Nat) (ids : List Int) (w : World) : Prop where
  rg : Reg w rs g m ids
  rf : Ref w hs y m ids
  keep : Below w0.heap.size w0 w
  farR : ∀ k ∈ rs, w0.heap.size ≤ k
  farH : ∀ k ∈ hs, w0.heap.size ≤ k
  dj : ∀ k ∈ rs, k ∉ hs
  room : ids.length ≤ 64
section
variable {w0 w w' : World} {g y : Nat} {m : Int} {rs hs : List Nat} {ids : List Int}
theorem DuoS.size (h : DuoS w0 g y m rs hs ids w) : w0.heap.size ≤ w.heap.size := h.keep.size
/-- Nothing that was there at B turned. -/
theorem DuoS.under (h : DuoS w0 g y m rs hs ids w) {B : Nat} (hb : Below B w w') (hB : w0.heap.size ≤ B) (h1 : ∀ k ∈ rs, k < B) (h2 : ∀ k ∈ hs, k < B) : DuoS w0 g y m rs hs ids w' :=
  ⟨h.rg.same (fun k hk => hb.block k (h1 k hk)) hb.size, h.rf.same (fun k hk => hb.block k (h2 k hk)) hb.size, h.keep.trans (hb.mono hB), h.farR, h.farH, h.dj, h.room⟩
theorem DuoS.below (h : DuoS w0 g y m rs hs ids w) (hb : Below w.heap.size w w') : DuoS w0 g y m rs hs ids w' := h.under hb h.size h.rg.lt h.rf.lt
/-- Behind the program's Add. -/
structure Duo1 (w0 : World) (g y : Nat) (m : Int) (rs hs : List Nat) (ids ids' : List Int) (w : World) : Prop where
  rg : Reg w rs g m ids'
  rf : Ref w hs y m ids
  keep : Below w0.heap.size w0 w
  farR : ∀ k ∈ rs, w0.heap.size ≤ k
  farH : ∀ k ∈ hs, w0.heap.size ≤ k
  dj : ∀ k ∈ rs, k ∉ hs
  room : ids.length ≤ 64
  room' : ids'.length ≤ 64
theorem DuoS.add (h : DuoS w0 g y m rs hs ids w) {e : Ending} {r : Int} {ids' : List Int} (ha : AddO (fun w gs ids => Reg w gs g m ids) rs r ids' e w w') (hl : ids'.length ≤ 64) : e = .returned (.int .i64 r) ∧ ∃ rs', Duo1 w0 g y m rs' hs ids ids' w' := by
  obtain ⟨rfl, rs', h1, h2, h3⟩ := ha
  refine ⟨rfl, rs', h1, h.rf.butS h2 (fun k hk hr => h.dj k hr hk), h2.below h.keep h.size h.farR, fun k hk => ?_, h.farH, fun k hk hh => ?_, h.room, hl⟩
  · rcases h3 k hk with h4 | h4
    · exact h.farR k h4
    · exact Nat.le_trans h.size h4
  · rcases h3 k hk with h4 | h4
    · exact h.dj k h4 hh
    · have := h.rf.lt k hh
      omega
theorem Duo1.done {ids' : List Int} {q : Bool} (h : Duo1 w0 g y m rs hs ids ids' w) (hI : MI hs (DuoI rs hs w.heap.size g y m ids ids') w true q w') : ∃ hs', DuoS w0 g y m rs hs' ids' w' := by
  obtain ⟨hs', h1, h2⟩ := hI.st.post
  refine ⟨hs', hI.st.1, h1, hI.gr.below h.keep h.keep.size h.farH, h.farR, fun k hk => ?_, fun k hk hh => ?_, h.room'⟩
  · rcases h2 k hk with h3 | h3
    · exact h.farH k h3
    · exact Nat.le_trans h.keep.size h3
  · rcases h2 k hh with h3 | h3
    · exact h.dj k hk h3
    · have := h.rg.lt k hk
      omega
end

end Go.Proofs.Ytamgllaoeociaaa

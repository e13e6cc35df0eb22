/-
  The memory of a registry, the program's (a row and a map of places) and the reference's (a row); what keeps it.
-/
import Derived.Test.YtamgllaoeociaaaRgP
import Derived.Test.YtamgllaoeociaaaRcInt
import Derived.Test.YtamgllaoeociaaaBut
namespace Go.Proofs.Ytamgllaoeociaaa
open Go.RowKit

theorem OwnI.butS {gs : List Nat} {w w' : World} {base : Nat} {v : Value} {xs : List Int} (h : OwnI w base v xs) (hb : ButS gs w w') (hne : ∀ k, v.ownBlock = some k → k ∉ gs) : OwnI w' base v xs := by
  refine ⟨h.1, ?_⟩
  rcases h.2 with h0 | ⟨g, cap, cur, e, hg, hh, r⟩
  · exact .inl h0
  · refine .inr ⟨g, cap, cur, e, hg, ?_, r⟩
    rw [hb.other g (Array.getElem?_eq_some_iff.1 hh).1 (hne g (by rw [e]; rfl))]
    exact hh
theorem OwnI.blk {w : World} {base n c : Nat} {A : Option Addr} {xs : List Int} {gs : List Nat} (_ : OwnI w base (.slice A n c) xs) (h : ∀ ad, A = some ad → ad.block ∈ gs) : ∀ k, (Value.slice A n c).ownBlock = some k → k ∈ gs := fun k hk => by
  cases A with
  | none => simp [Value.ownBlock] at hk
  | some ad =>
    have : ad.block = k := by simpa [Value.ownBlock] using hk
    rw [← this]; exact h ad rfl
theorem Ints.butS {gs : List Nat} {w w' : World} {A : Option Addr} {n : Nat} {xs : List Int} (h : Ints w A n xs) (hb : ButS gs w w') (hne : ∀ ad, 0 < n → A = some ad → ad.block ∉ gs) : Ints w' A n xs :=
  ⟨h.1, fun hn => by
    obtain ⟨b, o, rfl, hi⟩ := h.2 hn
    refine ⟨b, o, rfl, fun k hk => ?_⟩
    have hc := hi k hk
    rw [← hc]
    exact World.cell?_of_block (w := w) (w' := w') (a := ⟨b, o + k, none⟩) (hb.other b (block_lt_of_cell hc) (hne _ hn rfl))⟩

/-- A registry's cells. -/
def regC (m : Int) (A : Option Addr) (n c mp : Nat) : Array Value := #[.int .i64 m, .slice A n c, .map (some mp)]
structure RegAt (w : World) (gs : List Nat) (g : Nat) (m : Int) (ids : List Int) (A : Option Addr) (c mp : Nat) (D : DataW Unit) : Prop where
  st : Has w g 45 (regC m A ids.length c mp)
  own : OwnI w 0 (.slice A ids.length c) ids
  map : w.ownsMap Try.prog 3 (plainElem Try.prog 3) mp ids.length D
  keys : Keys1 D ids
  inG : g ∈ gs
  inM : mp ∈ gs
  inA : ∀ ad, A = some ad → ad.block ∈ gs
  nil : A = none ∨ 0 < ids.length
  lt : ∀ k ∈ gs, k < w.heap.size
/-- The program's registry at g, of at most m ids, holds ids, in blocks out of gs. -/
def Reg (w : World) (gs : List Nat) (g : Nat) (m : Int) (ids : List Int) : Prop := ∃ A c mp D, RegAt w gs g m ids A c mp D
theorem RegAt.butS {w w' : World} {gs hs : List Nat} {g : Nat} {m : Int} {ids : List Int} {A : Option Addr} {c mp : Nat} {D : DataW Unit} (h : RegAt w gs g m ids A c mp D) (hb : ButS hs w w') (hn : ∀ k ∈ gs, k ∉ hs) : RegAt w' gs g m ids A c mp D :=
  ⟨h.st.butS hb (hn _ h.inG), h.own.butS hb (fun k hk => hn k (h.own.blk h.inA k hk)), by
    obtain ⟨es, clock, hm, r⟩ := h.map
    exact ⟨es, clock, (hb.other mp (Array.getElem?_eq_some_iff.1 hm).1 (hn _ h.inM)).trans hm, r⟩, h.keys, h.inG, h.inM, h.inA, h.nil, fun k hk => Nat.lt_of_lt_of_le (h.lt k hk) hb.size⟩
theorem Reg.butS {w w' : World} {gs hs : List Nat} {g : Nat} {m : Int} {ids : List Int} (h : Reg w gs g m ids) (hb : ButS hs w w') (hn : ∀ k ∈ gs, k ∉ hs) : Reg w' gs g m ids := by
  obtain ⟨A, c, mp, D, h⟩ := h
  exact ⟨A, c, mp, D, h.butS hb hn⟩
theorem Reg.below {w w' : World} {gs : List Nat} {g : Nat} {m : Int} {ids : List Int} (h : Reg w gs g m ids) (hb : Below w.heap.size w w') : Reg w' gs g m ids := h.butS (below_butS hb []) (fun _ _ h => by cases h)

/-- The reference's registry. -/
def refC (m : Int) (A : Option Addr) (n c : Nat) : Array Value := #[.int .i64 m, .slice A n c]
structure RefAt (w : World) (gs : List Nat) (g : Nat) (m : Int) (ids : List Int) (A : Option Addr) (c : Nat) : Prop where
  st : Has w g 38 (refC m A ids.length c)
  own : OwnI w 0 (.slice A ids.length c) ids
  inG : g ∈ gs
  inA : ∀ ad, A = some ad → ad.block ∈ gs
  lt : ∀ k ∈ gs, k < w.heap.size
def Ref (w : World) (gs : List Nat) (g : Nat) (m : Int) (ids : List Int) : Prop := ∃ A c, RefAt w gs g m ids A c
theorem Ref.butS {w w' : World} {gs hs : List Nat} {g : Nat} {m : Int} {ids : List Int} (h : Ref w gs g m ids) (hb : ButS hs w w') (hn : ∀ k ∈ gs, k ∉ hs) : Ref w' gs g m ids := by
  obtain ⟨A, c, h⟩ := h
  exact ⟨A, c, h.st.butS hb (hn _ h.inG), h.own.butS hb (fun k hk => hn k (h.own.blk h.inA k hk)), h.inG, h.inA, fun k hk => Nat.lt_of_lt_of_le (h.lt k hk) hb.size⟩
theorem Ref.below {w w' : World} {gs : List Nat} {g : Nat} {m : Int} {ids : List Int} (h : Ref w gs g m ids) (hb : Below w.heap.size w w') : Ref w' gs g m ids := h.butS (below_butS hb []) (fun _ _ h => by cases h)

/-- What Add leaves: its number, the registry, no other block turned. -/
def AddO (S : World → List Nat → List Int → Prop) (gs : List Nat) (r : Int) (ids' : List Int) (e : Ending) (w w' : World) : Prop :=
  e = .returned (.int .i64 r) ∧ ∃ gs', S w' gs' ids' ∧ ButS gs w w' ∧ ∀ k ∈ gs', k ∈ gs ∨ w.heap.size ≤ k

theorem gkeyed : Maps.Keyed Try.prog 3 := Maps.int_keyed Try.underlying3
theorem gzero (w : World) : (zeroValue 3).run Try.prog w = .ok (.int .i64 0) w := by kernel_rfl

end Go.Proofs.Ytamgllaoeociaaa

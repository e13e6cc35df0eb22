/-
  Walks: numbers.Reader's Next and AtEnd, numbers.Read; the reference's Reader.Num.
-/
import Derived.Test.YtoechlmahckchaaG11h
import Derived.Test.YtoechlmahckchaaMem
import Derived.Test.YtoechlmahckchaaG11e
import Derived.Deep.RegionHeld3
import Derived.BigQuiet
import Derived.Deep.QuietTactic
namespace Go.Proofs.Ytoechlmahckchaa
open Go.RowKit

/-- Every block but g is as it was. -/
structure Only (g : Nat) (w w' : World) : Prop where
  os : w'.os = w.os
  tape : w'.tape = w.tape
  output : w'.output = w.output
  size : w'.heap.size = w.heap.size
  other : ∀ k, k ≠ g → w'.heap[k]? = w.heap[k]?
section
variable {g : Nat} {w w' w'' : World}
theorem Only.refl (g : Nat) (w : World) : Only g w w := ⟨rfl, rfl, rfl, rfl, fun _ _ => rfl⟩
theorem Only.trans (h : Only g w w') (k : Only g w' w'') : Only g w w'' := ⟨k.os.trans h.os, k.tape.trans h.tape, k.output.trans h.output, k.size.trans h.size, fun i hi => (k.other i hi).trans (h.other i hi)⟩
theorem Only.drew (h : Only g w w') : Only g w w'.drew := ⟨h.os, h.tape, h.output, h.size, h.other⟩
theorem Only.setCell (h : Only g w w') {p : Addr} (hp : p.block = g) (v : Value) : Only g w (w'.setCell p v) :=
  h.trans ⟨rfl, rfl, rfl, by simp [World.setCell], fun k hk => heap_setCell_other _ _ _ _ (by rw [hp]; exact hk)⟩
theorem Only.below (h : Only g w w') {B : Nat} (hB : B ≤ g) : Below B w w' := ⟨h.os, h.tape, h.output, Nat.le_of_eq h.size.symm, fun k hk => h.other k (by omega)⟩
theorem Only.has (h : Only g w w') {k : Nat} {t : TypeId} {cs : Array Value} (hh : Has w k t cs) (hk : k ≠ g) : Has w' k t cs := (h.other k hk).trans hh
end

/-- A reader: its text, where it is, has it failed? -/
def rdC (s : ByteArray) (a : Int) (b : Bool) : Array Value := #[.string s, .int .i64 a, .bool b]
theorem rdC_0 (s : ByteArray) (a : Int) (b : Bool) : (rdC s a b)[0]? = some (.string s) := rfl
theorem rdC_1 (s : ByteArray) (a : Int) (b : Bool) : (rdC s a b)[1]? = some (.int .i64 a) := rfl
theorem rdC_2 (s : ByteArray) (a : Int) (b : Bool) : (rdC s a b)[2]? = some (.bool b) := rfl
theorem rdC_at (s : ByteArray) (a a' : Int) (b : Bool) : (rdC s a b).setIfInBounds 1 (.int .i64 a') = rdC s a' b := rfl
theorem rdC_bad (s : ByteArray) (a : Int) (b b' : Bool) : (rdC s a b).setIfInBounds 2 (.bool b') = rdC s a b' := rfl

theorem next_bad (g : Nat) (s : ByteArray) (a : Int) (w : World) (h : Has w g 102 (rdC s a true)) :
    Calls Try.prog 57 #[.pointer (some ⟨g, 0, none⟩)] w fun e w' => e = .returned (.int .i64 0) ∧ w = w' := by
  have c2 : w.cell? ⟨g, 2, none⟩ = some (.bool true) := h.cell 2
  go_enter Try.func57, Try.ntmps57
  go_wp2_with fail
  go_ret
  exact ⟨rfl, rfl⟩
set_option maxRecDepth 100000 in
set_option maxHeartbeats 1000000 in
theorem next_ok (g : Nat) (s : ByteArray) (a x e z : Int) (w : World) (h : Has w g 102 (rdC s a false)) (hs : s.size ≤ maxLen) (ht : getT s.data.toList a = (x, e, z)) (hz : z = 0) :
    Calls Try.prog 57 #[.pointer (some ⟨g, 0, none⟩)] w fun en w' => en = .returned (.int .i64 x) ∧ Has w' g 102 (rdC s e false) ∧ Only g w w' := by
  have c0 : w.cell? ⟨g, 0, none⟩ = some (.string s) := h.cell 0
  have c1 : w.cell? ⟨g, 1, none⟩ = some (.int .i64 a) := h.cell 1
  have c2 : w.cell? ⟨g, 2, none⟩ = some (.bool false) := h.cell 2
  have m1 := h.mark 1
  subst hz
  have HG := Lib.hid (fun w : World => get_tri s a x e 0 ht hs w)
  have HH := Lib.hid h
  clear ht h
  go_enter Try.func57, Try.ntmps57
  go_wp2_with fail
  go_region_held3 (fun w' => w'.cell? ⟨g, 0, none⟩ = some (.string s) ∧ w'.cell? ⟨g, 1, none⟩ = some (.int .i64 a)) (simp [go_sem, c0, c1])
    ((go_at_call 61; refine (HG.out _).mono ?_; rintro e w' ⟨rfl, rfl⟩))
  go_wp2_with fail
  go_ret
  exact ⟨rfl, HH.out.drew.put 1 _, ((Only.refl g w).drew).setCell rfl _⟩

set_option maxRecDepth 100000 in
set_option maxHeartbeats 1000000 in
theorem next_err (g : Nat) (s : ByteArray) (a x e z : Int) (w : World) (h : Has w g 102 (rdC s a false)) (hs : s.size ≤ maxLen) (ht : getT s.data.toList a = (x, e, z)) (hz : z ≠ 0) :
    Calls Try.prog 57 #[.pointer (some ⟨g, 0, none⟩)] w fun en w' => en = .returned (.int .i64 0) ∧ Has w' g 102 (rdC s a true) ∧ Only g w w' := by
  have c0 : w.cell? ⟨g, 0, none⟩ = some (.string s) := h.cell 0
  have c1 : w.cell? ⟨g, 1, none⟩ = some (.int .i64 a) := h.cell 1
  have c2 : w.cell? ⟨g, 2, none⟩ = some (.bool false) := h.cell 2
  have m2 := h.mark 2
  have q : (z != 0) = true := by simpa using hz
  have HG := Lib.hid (fun w : World => get_tri s a x e z ht hs w)
  have HH := Lib.hid h
  clear ht h hz
  go_enter Try.func57, Try.ntmps57
  go_wp2_with fail
  go_region_held3 (fun w' => w'.cell? ⟨g, 0, none⟩ = some (.string s) ∧ w'.cell? ⟨g, 1, none⟩ = some (.int .i64 a)) (simp [go_sem, c0, c1])
    ((go_at_call 61; refine (HG.out _).mono ?_; rintro e w' ⟨rfl, rfl⟩))
  go_wp2_with fail
  go_ret
  exact ⟨rfl, HH.out.drew.put 2 _, ((Only.refl g w).drew).setCell rfl _⟩
/-- Next, in any state. -/
theorem next_any (g : Nat) (s : ByteArray) (a a' x : Int) (b b' : Bool) (w : World) (h : Has w g 102 (rdC s a b)) (hs : s.size ≤ maxLen) (hn : nextR s.data.toList a b = (x, a', b')) :
    Calls Try.prog 57 #[.pointer (some ⟨g, 0, none⟩)] w fun en w' => en = .returned (.int .i64 x) ∧ Has w' g 102 (rdC s a' b') ∧ Only g w w' := by
  cases b with
  | true =>
    rw [nextR_bad] at hn
    injection hn with h1 h2
    injection h2 with h2 h3
    subst h1 h2 h3
    exact (next_bad g s a w h).mono fun en w' ⟨h1, h2⟩ => ⟨h1, h2 ▸ h, h2 ▸ Only.refl g w⟩
  | false =>
    obtain ⟨y, e, z, ht⟩ : ∃ y e z, getT s.data.toList a = (y, e, z) := ⟨_, _, _, rfl⟩
    by_cases hz : z = 0
    · rw [nextR_ok (hz ▸ ht)] at hn
      injection hn with h1 h2
      injection h2 with h2 h3
      subst h1 h2 h3
      exact next_ok g s a _ _ z w h hs ht hz
    · rw [nextR_err ht hz] at hn
      injection hn with h1 h2
      injection h2 with h2 h3
      subst h1 h2 h3
      exact next_err g s a _ _ z w h hs ht hz

set_option maxRecDepth 100000 in
set_option maxHeartbeats 1000000 in
theorem rnum_ok (g : Nat) (s : ByteArray) (a x e z : Int) (w : World) (h : Has w g 99 (rdC s a false)) (hs : s.size ≤ maxLen) (ht : getT s.data.toList a = (x, e, z)) (hz : z = 0) :
    Calls Try.prog 59 #[.pointer (some ⟨g, 0, none⟩)] w fun en w' => en = .returned (.int .i64 x) ∧ Has w' g 99 (rdC s e false) ∧ Only g w w' := by
  have c0 : w.cell? ⟨g, 0, none⟩ = some (.string s) := h.cell 0
  have c1 : w.cell? ⟨g, 1, none⟩ = some (.int .i64 a) := h.cell 1
  have c2 : w.cell? ⟨g, 2, none⟩ = some (.bool false) := h.cell 2
  have m1 := h.mark 1
  subst hz
  have HG := Lib.hid (fun w : World => rget_tri s a x e 0 ht hs w)
  have HH := Lib.hid h
  clear ht h
  go_enter Try.func59, Try.ntmps59
  go_wp2_with fail
  go_region_held3 (fun w' => w'.cell? ⟨g, 0, none⟩ = some (.string s) ∧ w'.cell? ⟨g, 1, none⟩ = some (.int .i64 a)) (simp [go_sem, c0, c1])
    ((go_at_call 62; refine (HG.out _).mono ?_; rintro e w' ⟨rfl, rfl⟩))
  go_wp2_with fail
  go_ret
  exact ⟨rfl, HH.out.drew.put 1 _, ((Only.refl g w).drew).setCell rfl _⟩
set_option maxRecDepth 100000 in
set_option maxHeartbeats 1000000 in
theorem rnum_bad (g : Nat) (s : ByteArray) (a x e z : Int) (b : Bool) (w : World) (h : Has w g 99 (rdC s a b)) (hs : s.size ≤ maxLen) (ht : getT s.data.toList a = (x, e, z)) (hz : b = true ∨ z ≠ 0) :
    Calls Try.prog 59 #[.pointer (some ⟨g, 0, none⟩)] w fun en w' => en = .returned (.int .i64 0) ∧ Has w' g 99 (rdC s a true) ∧ Only g w w' := by
  have c0 : w.cell? ⟨g, 0, none⟩ = some (.string s) := h.cell 0
  have c1 : w.cell? ⟨g, 1, none⟩ = some (.int .i64 a) := h.cell 1
  have c2 : w.cell? ⟨g, 2, none⟩ = some (.bool b) := h.cell 2
  have m2 := h.mark 2
  have HG := Lib.hid (fun w : World => rget_tri s a x e z ht hs w)
  have HH := Lib.hid h
  clear ht h
  cases b with
  | true =>
    clear hz
    go_enter Try.func59, Try.ntmps59
    go_wp2_with fail
    go_region_held3 (fun w' => w'.cell? ⟨g, 0, none⟩ = some (.string s) ∧ w'.cell? ⟨g, 1, none⟩ = some (.int .i64 a)) (simp [go_sem, c0, c1])
      ((go_at_call 62; refine (HG.out _).mono ?_; rintro e w' ⟨rfl, rfl⟩))
    go_wp2_with fail
    go_ret
    exact ⟨rfl, HH.out.drew.put 2 _, ((Only.refl g w).drew).setCell rfl _⟩
  | false =>
    have q : (z != 0) = true := by simpa using hz
    clear hz
    go_enter Try.func59, Try.ntmps59
    go_wp2_with fail
    go_region_held3 (fun w' => w'.cell? ⟨g, 0, none⟩ = some (.string s) ∧ w'.cell? ⟨g, 1, none⟩ = some (.int .i64 a)) (simp [go_sem, c0, c1])
      ((go_at_call 62; refine (HG.out _).mono ?_; rintro e w' ⟨rfl, rfl⟩))
    go_wp2_with fail
    go_ret
    exact ⟨rfl, HH.out.drew.put 2 _, ((Only.refl g w).drew).setCell rfl _⟩
theorem rnum_any (g : Nat) (s : ByteArray) (a a' x : Int) (b b' : Bool) (w : World) (h : Has w g 99 (rdC s a b)) (hs : s.size ≤ maxLen) (hn : nextR s.data.toList a b = (x, a', b')) :
    Calls Try.prog 59 #[.pointer (some ⟨g, 0, none⟩)] w fun en w' => en = .returned (.int .i64 x) ∧ Has w' g 99 (rdC s a' b') ∧ Only g w w' := by
  obtain ⟨y, e, z, ht⟩ : ∃ y e z, getT s.data.toList a = (y, e, z) := ⟨_, _, _, rfl⟩
  cases b with
  | true =>
    rw [nextR_bad] at hn
    injection hn with h1 h2
    injection h2 with h2 h3
    subst h1 h2 h3
    exact rnum_bad g s a _ _ z true w h hs ht (.inl rfl)
  | false =>
    by_cases hz : z = 0
    · rw [nextR_ok (hz ▸ ht)] at hn
      injection hn with h1 h2
      injection h2 with h2 h3
      subst h1 h2 h3
      exact rnum_ok g s a _ _ z w h hs ht hz
    · rw [nextR_err ht hz] at hn
      injection hn with h1 h2
      injection h2 with h2 h3
      subst h1 h2 h3
      exact rnum_bad g s a _ _ z false w h hs ht (.inr hz)

set_option maxHeartbeats 400000 in
theorem atEnd_any (g : Nat) (s : ByteArray) (a : Int) (b v : Bool) (gg : Nat) (w : World) (h : Has w g 102 (rdC s a b)) (hv : (!b && a == (s.size : Int)) = v) :
    Calls Try.prog 58 #[.pointer (some ⟨g, 0, none⟩)] w fun en w' => en = .returned (.bool v) ∧ Only gg w w' := by
  have c0 : w.cell? ⟨g, 0, none⟩ = some (.string s) := h.cell 0
  have c1 : w.cell? ⟨g, 1, none⟩ = some (.int .i64 a) := h.cell 1
  have c2 : w.cell? ⟨g, 2, none⟩ = some (.bool b) := h.cell 2
  clear h
  cases b with
  | true =>
    obtain rfl : false = v := hv
    go_enter Try.func58, Try.ntmps58
    go_wp2_with fail
    go_quiet (fail)
    go_wp2_with fail
    go_ret
    exact ⟨rfl, ⟨rfl, rfl, rfl, rfl, fun _ _ => rfl⟩⟩
  | false =>
    obtain rfl : (a == (s.size : Int)) = v := hv
    go_enter Try.func58, Try.ntmps58
    go_wp2_with fail
    go_quiet (fail)
    go_wp2_with fail
    go_ret
    exact ⟨rfl, ⟨rfl, rfl, rfl, rfl, fun _ _ => rfl⟩⟩

set_option maxHeartbeats 400000 in
theorem read_any (s : ByteArray) (w : World) :
    Calls Try.prog 56 #[.string s] w fun en w' => en = .returned (.pointer (some ⟨w.heap.size, 0, none⟩)) ∧ w' = w.alloc (.cells (rdC s 0 false) 102) := by
  go_enter Try.func56, Try.ntmps56
  go_wp2_with fail
  go_ret
  exact ⟨rfl, rfl⟩

end Go.Proofs.Ytoechlmahckchaa

/-
  Walks: the scanner's tellBad, the reference's bad; Waits, Bad, New, strings' parts.
-/
import Derived.Test.YtoechlmahckchaaG11k
import Derived.Test.YtoechlmahckchaaG11g
import Derived.Test.YtoechlmahckchaaWiRPut
namespace Go.Proofs.Ytoechlmahckchaa
open Go.RowKit

/-- Bytes, as a text. -/
def txt (l : List UInt8) : ByteArray := ⟨l.toArray⟩
theorem txt_list (l : List UInt8) : (txt l).data.toList = l := rfl
theorem txt_size (l : List UInt8) : (txt l).size = l.length := by show l.toArray.size = _; simp
theorem txt_of (s : ByteArray) : txt s.data.toList = s := by simp [txt]
theorem txt_cat (l : List UInt8) (s : ByteArray) : txt l ++ s = txt (l ++ s.data.toList) := by
  have h : txt l ++ (⟨s.data.toList.toArray⟩ : ByteArray) = txt (l ++ s.data.toList) := cat_bytes _ _
  have e : (⟨s.data.toList.toArray⟩ : ByteArray) = s := by simp
  rwa [e] at h
theorem txt_drop (s : ByteArray) (a : Nat) : s.extract a s.size = txt (s.data.toList.drop a) := by rw [← rest_list, txt_of]
/-- A scanner's cells: what waits, how many were none. -/
def scC (l : List UInt8) (b : Nat) : Array Value := #[.string (txt l), .int .i64 b]
theorem scC_0 (l : List UInt8) (b : Nat) : (scC l b)[0]? = some (.string (txt l)) := rfl
theorem scC_1 (l : List UInt8) (b : Nat) : (scC l b)[1]? = some (.int .i64 b) := rfl
theorem scC_w (l l' : List UInt8) (b : Nat) : (scC l b).setIfInBounds 0 (.string (txt l')) = scC l' b := rfl
theorem scC_b (l : List UInt8) (b b' : Nat) : (scC l b).setIfInBounds 1 (.int .i64 b') = scC l b' := rfl

set_option maxHeartbeats 400000 in
theorem new_any (w : World) :
    Calls Try.prog 9 #[] w fun e w' => e = .returned (.pointer (some ⟨w.heap.size, 0, none⟩)) ∧ Has w' w.heap.size 58 (scC [] 0) ∧ Below w.heap.size w w' := by
  go_enter Try.func9, Try.ntmps9
  go_wp2_with fail
  go_ret
  exact ⟨rfl, Has.made w _ _, (Below.refl _ _).alloc (Nat.le_refl _) _⟩
set_option maxHeartbeats 400000 in
theorem waits_any (g : Nat) (l : List UInt8) (b : Nat) (w : World) (h : Has w g 58 (scC l b)) (hl : l.length ≤ 1000000000000) :
    Calls Try.prog 16 #[.pointer (some ⟨g, 0, none⟩)] w fun e w' => e = .returned (.string (txt l)) ∧ Below w.heap.size w w' := by
  have c0 : w.cell? ⟨g, 0, none⟩ = some (.string (txt l)) := h.cell 0
  have hs : (txt l).size ≤ 281474976710656 := by rw [txt_size]; omega
  have HC := Lib.hid (fun w : World => clone_any (txt l) w hs)
  clear h hs
  generalize txt l = s at c0 HC ⊢
  go_enter Try.func16, Try.ntmps16
  go_wp2_with fail
  refine (HC.out _).mono ?_; rintro e w1 ⟨rfl, b1⟩
  go_wp2_with fail
  go_ret
  exact ⟨rfl, b1⟩
set_option maxHeartbeats 400000 in
theorem badn_any (g : Nat) (l : List UInt8) (b : Nat) (w : World) (h : Has w g 58 (scC l b)) :
    Calls Try.prog 17 #[.pointer (some ⟨g, 0, none⟩)] w fun e w' => e = .returned (.int .i64 b) ∧ w = w' := by
  have c1 : w.cell? ⟨g, 1, none⟩ = some (.int .i64 b) := h.cell 1
  clear h
  go_enter Try.func17, Try.ntmps17
  go_wp2_with fail
  go_ret
  exact ⟨rfl, rfl⟩

/-- What tellBad leaves: a row that goes on, nothing counted; it writes only the scanner and the row that it was handed. -/
def TellO (g : Nat) (R : TypeId) (l : List UInt8) (base : Nat) (v : Value) (os : List Po) (e : Ending) (w w' : World) : Prop :=
  ∃ A c, e = .returned (.slice A os.length c) ∧ OwnO w' base (.slice A os.length c) os ∧ Has w' g R (scC l 0) ∧ (∀ k, k < w.heap.size → k ≠ g → v.ownBlock ≠ some k → w'.heap[k]? = w.heap[k]?) ∧ w.heap.size ≤ w'.heap.size ∧ w'.os = w.os ∧ w'.tape = w.tape ∧ w'.output = w.output

/-- The memory ahead of the append. -/
structure TlS (g : Nat) (R : TypeId) (l : List UInt8) (b base : Nat) (v : Value) (os : List Po) (w wr : World) : Prop where
  own : OwnO wr base v os
  one : Ops wr (some ⟨w.heap.size + 1, 0, none⟩) 1 [badP b]
  sc : Has wr g R (scC l 0)
  grow : w.grownBy wr (some g)
  size : w.heap.size ≤ wr.heap.size
  ne : v.ownBlock ≠ some g
  glt : g < w.heap.size
theorem TlS.made {g : Nat} {R : TypeId} {l : List UInt8} {b base : Nat} {v : Value} {os : List Po} {w : World} (hR : R ≠ 49) (h : Has w g R (scC l b)) (ho : OwnO w base v os) :
    TlS g R l b base v os w (((w.setCell ⟨g, 1, none⟩ (.int .i64 0)).alloc (.cells #[.int .i64 3, .int .i64 0, .int .i64 0, .int .i64 0, .int .i64 b] 49)).alloc (.cells #[.int .i64 3, .int .i64 0, .int .i64 0, .int .i64 0, .int .i64 b] 49)) := by
  have hne := ho.apart h hR
  have h1 : Has (w.setCell ⟨g, 1, none⟩ (.int .i64 0)) g R (scC l 0) := h.put 1 _
  have g1 : w.grownBy (w.setCell ⟨g, 1, none⟩ (.int .i64 0)) (some g) := grow_set (grow_refl w _) (.inl rfl) _ rfl _
  have o1 := ho.grow g1 (.inr hne)
  have e1 : (w.setCell ⟨g, 1, none⟩ (.int .i64 0)).heap.size = w.heap.size := by simp [World.setCell]
  generalize w.setCell ⟨g, 1, none⟩ (.int .i64 0) = w1 at h1 g1 o1 e1 ⊢
  have b2 : Below w1.heap.size w1 ((w1.alloc (.cells #[.int .i64 3, .int .i64 0, .int .i64 0, .int .i64 0, .int .i64 b] 49)).alloc (.cells #[.int .i64 3, .int .i64 0, .int .i64 0, .int .i64 0, .int .i64 b] 49)) := ((Below.refl _ _).alloc (Nat.le_refl _) _).alloc (by simp) _
  refine ⟨o1.below b2, ?_, h1.below b2 h1.lt, grow_trans g1 (below_grow b2 none) (by simp), by rw [← e1]; exact b2.size, hne, h.lt⟩
  have h3 := Has.made (w1.alloc (.cells #[.int .i64 3, .int .i64 0, .int .i64 0, .int .i64 0, .int .i64 b] 49)) 49 #[.int .i64 3, .int .i64 0, .int .i64 0, .int .i64 0, .int .i64 b]
  have e3 : (w1.alloc (.cells #[.int .i64 3, .int .i64 0, .int .i64 0, .int .i64 0, .int .i64 b] 49)).heap.size = w.heap.size + 1 := by simp [e1]
  rw [e3] at h3
  exact Ops.one h3 rfl
theorem TlS.tell {g : Nat} {R : TypeId} {l : List UInt8} {b base n c c2 : Nat} {A A2 : Option Addr} {os : List Po} {w wr w' : World} (h : TlS g R l b base (.slice A n c) os w wr) (hl : os.length = n) (h1 : OwnO w' base (.slice A2 (n + 1) c2) (os ++ [badP b])) (h2 : wr.grownBy w' (Value.slice A n c).ownBlock) :
    TellO g R l base (.slice A n c) (os ++ [badP b]) (.returned (.slice A2 (n + 1) c2)) w w' := by
  have e : (os ++ [badP b]).length = n + 1 := by simp [hl]
  refine ⟨A2, c2, by rw [e], by rw [e]; exact h1, h.sc.grow h2 h.ne, fun k hk hg hv => (h2.block k (Nat.lt_of_lt_of_le hk h.size) (fun e => hv e.symm)).trans (h.grow.block k hk (fun e => hg (by injection e))), Nat.le_trans h.size h2.size, h2.os.trans h.grow.os, h2.tape.trans h.grow.tape, h2.output.trans h.grow.output⟩

set_option maxRecDepth 100000 in
set_option maxHeartbeats 1000000 in
theorem tell_none (g : Nat) (l : List UInt8) (base n c : Nat) (A : Option Addr) (os : List Po) (w : World) (h : Has w g 58 (scC l 0)) (ho : OwnO w base (.slice A n c) os) :
    Calls Try.prog 32 #[.pointer (some ⟨g, 0, none⟩), .slice A n c] w fun e w' => TellO g 58 l base (.slice A n c) os e w w' := by
  have c1 : w.cell? ⟨g, 1, none⟩ = some (.int .i64 0) := h.cell 1
  have hl := ho.slice.1
  have HE : Hid (TellO g 58 l base (.slice A n c) os (.returned (.slice A n c)) w w) := Lib.hid ⟨A, c, by rw [hl], by rw [hl]; exact ho, h, fun _ _ _ _ => rfl, Nat.le_refl _, rfl, rfl, rfl⟩
  clear h ho
  go_enter Try.func32, Try.ntmps32
  go_wp2_with fail
  go_ret
  exact HE.out
set_option maxRecDepth 100000 in
set_option maxHeartbeats 1000000 in
theorem tell_some (g : Nat) (l : List UInt8) (b base n c : Nat) (A : Option Addr) (os : List Po) (w : World) (hb0 : 0 < b) (hb : b ≤ 1073741823) (h : Has w g 58 (scC l b)) (ho : OwnO w base (.slice A n c) os) (hn : n ≤ 2000000000000) (hbase : base ≤ w.heap.size) :
    Calls Try.prog 32 #[.pointer (some ⟨g, 0, none⟩), .slice A n c] w fun e w' => TellO g 58 l base (.slice A n c) (os ++ [badP b]) e w w' := by
  have c1 : w.cell? ⟨g, 1, none⟩ = some (.int .i64 b) := h.cell 1
  have q0 : ((b : Int) == 0) = false := by simp; omega
  have m1 := h.mark 1
  have hX : Hid (TlS g 58 l b base (.slice A n c) os w (((w.setCell ⟨g, 1, none⟩ (.int .i64 0)).alloc (.cells #[.int .i64 3, .int .i64 0, .int .i64 0, .int .i64 0, .int .i64 b] 49)).alloc (.cells #[.int .i64 3, .int .i64 0, .int .i64 0, .int .i64 0, .int .i64 b] 49))) := Lib.hid (TlS.made (by decide) h ho)
  have hl := ho.slice.1
  have hsz : base ≤ (((w.setCell ⟨g, 1, none⟩ (.int .i64 0)).alloc (.cells #[.int .i64 3, .int .i64 0, .int .i64 0, .int .i64 0, .int .i64 b] 49)).alloc (.cells #[.int .i64 3, .int .i64 0, .int .i64 0, .int .i64 0, .int .i64 b] 49)).heap.size := Nat.le_trans hbase hX.out.size
  have hglt := h.lt
  clear h ho
  go_enter Try.func32, Try.ntmps32
  go_wp2_with (refine app_ops rfl _ _ rfl rfl hX.out.own rfl hX.out.one (fun h => by cases h) (by omega) hsz (fun A2 c2 w2 h1 h2 h3 => ?_))
  go_ret
  exact hX.out.tell hl h1 h2

end Go.Proofs.Ytoechlmahckchaa

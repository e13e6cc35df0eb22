/-
  Walks: scan.look, mayWait; the reference's here.
  Walks: scan.mayWait; the reference's here.
-/
import Derived.Test.YtoechlmahckchaaScMem
import Derived.Test.YtoechlmahckchaaScRg
import Derived.Test.YtoechlmahckchaaG11g
import Derived.Test.YtoechlmahckchaaFrRGet
import Derived.Test.YtoechlmahckchaaWiGet
namespace Go.Proofs.Ytoechlmahckchaa
open Go.RowKit

section
variable {fn : Func} {p t u r : Tmp} (tmps : Array Value) (w : World) (g : Nat) (o : Po)
/-- What a call hands out whose operation lies in a row of its own: in the middle of three, ahead of three. -/
theorem ret_mid (h : fn.results = #[.tmp t, .cell p 49, .tmp u]) (hp : tmps.getD p undef = .pointer (some ⟨g, 0, none⟩)) (hg : Has w g 49 (opC o)) :
    (results fn tmps).run Try.prog w = .ok (.tuple #[tmps.getD t undef, .agg #[.int .i64 o.k, .int .i64 o.so, .int .i64 o.se, .int .i64 o.ti, .int .i64 o.va], tmps.getD u undef]) w := by
  have hp' : tmps[p]?.getD undef = .pointer (some ⟨g, 0, none⟩) := by simpa using hp
  have hg' : Has w g 49 #[.int .i64 o.k, .int .i64 o.so, .int .i64 o.se, .int .i64 o.ti, .int .i64 o.va] := hg
  simp [results, h, hp', asAddr, run_loadVar_row w g 49 49 _ (0, 0) _ hg' Try.underlying49 rfl (by exact Try.sizeOp)]
theorem ret_four (h : fn.results = #[.cell p 49, .tmp t, .tmp u, .tmp r]) (hp : tmps.getD p undef = .pointer (some ⟨g, 0, none⟩)) (hg : Has w g 49 (opC o)) :
    (results fn tmps).run Try.prog w = .ok (.tuple #[.agg #[.int .i64 o.k, .int .i64 o.so, .int .i64 o.se, .int .i64 o.ti, .int .i64 o.va], tmps.getD t undef, tmps.getD u undef, tmps.getD r undef]) w := by
  have hp' : tmps[p]?.getD undef = .pointer (some ⟨g, 0, none⟩) := by simpa using hp
  have hg' : Has w g 49 #[.int .i64 o.k, .int .i64 o.so, .int .i64 o.se, .int .i64 o.ti, .int .i64 o.va] := hg
  simp [results, h, hp', asAddr, run_loadVar_row w g 49 49 _ (0, 0) _ hg' Try.underlying49 rfl (by exact Try.sizeOp)]
end
def LookO (st : Int) (o : Po) (z : Int) (e : Ending) (w w' : World) : Prop := e = .returned (.tuple #[.int .i64 st, .agg #[.int .i64 o.k, .int .i64 o.so, .int .i64 o.se, .int .i64 o.ti, .int .i64 o.va], .int .i64 z]) ∧ Below w.heap.size w w'
def HereO (o : Po) (z : Int) (p q : Bool) (e : Ending) (w w' : World) : Prop := e = .returned (.tuple #[.agg #[.int .i64 o.k, .int .i64 o.so, .int .i64 o.se, .int .i64 o.ti, .int .i64 o.va], .int .i64 z, .bool p, .bool q]) ∧ Below w.heap.size w w'

set_option maxRecDepth 100000 in
set_option maxHeartbeats 1000000 in
theorem look_c (s b : ByteArray) (a y : Int) (w : World) (hs : s.size ≤ 1000000000000) (h : getF s.data.toList a = (b, y, 801)) :
    Calls Try.prog 38 #[.string s, .int .i64 a] w fun e w' => LookO 2 noP 0 e w w' := by
  have HG := Lib.hid (fun w : World => fget_tri s a b y 801 h (by omega) w)
  clear h
  go_enter Try.func38, Try.ntmps38
  go_wp2_with fail
  refine (HG.out _).mono ?_; rintro e w1 ⟨rfl, b1⟩
  have h1 : Has w1 w.heap.size 49 (opC noP) := (Has.made w _ _).below b1 (by simp)
  have c1 : Below w.heap.size w w1 := ((Below.refl _ _).alloc (Nat.le_refl _) _).trans (b1.mono (by simp))
  clear b1
  go_wp2_with (refine store_op rfl _ _ rfl _ rfl rfl h1 rfl ?_)
  exact bodyPost_ret (ret_mid _ _ w.heap.size noP rfl rfl (h1.row _)) rfl ⟨rfl, below_row c1 (Nat.le_refl _) _⟩

set_option maxRecDepth 100000 in
set_option maxHeartbeats 1000000 in
theorem look_b (s b : ByteArray) (a y : Int) (w : World) (hs : s.size ≤ 1000000000000) (h : getF s.data.toList a = (b, y, 800)) :
    Calls Try.prog 38 #[.string s, .int .i64 a] w fun e w' => LookO 0 noP 0 e w w' := by
  have HG := Lib.hid (fun w : World => fget_tri s a b y 800 h (by omega) w)
  clear h
  go_enter Try.func38, Try.ntmps38
  go_wp2_with fail
  refine (HG.out _).mono ?_; rintro e w1 ⟨rfl, b1⟩
  have h1 : Has w1 w.heap.size 49 (opC noP) := (Has.made w _ _).below b1 (by simp)
  have c1 : Below w.heap.size w w1 := ((Below.refl _ _).alloc (Nat.le_refl _) _).trans (b1.mono (by simp))
  clear b1
  go_wp2_with (refine store_op rfl _ _ rfl _ rfl rfl h1 rfl ?_)
  exact bodyPost_ret (ret_mid _ _ w.heap.size noP rfl rfl (h1.row _)) rfl ⟨rfl, below_row c1 (Nat.le_refl _) _⟩

set_option maxRecDepth 100000 in
set_option maxHeartbeats 1000000 in
theorem look_n (s b : ByteArray) (a y : Int) (w : World) (hs : s.size ≤ 1000000000000) (h : getF s.data.toList a = (b, y, 0)) (hb : b.size ≤ maxLen) (k1 k2 k3 k4 k5 : Int) (ho : getO b.data.toList = ((k1, k2, k3, k4, k5), 900)) :
    Calls Try.prog 38 #[.string s, .int .i64 a] w fun e w' => LookO 0 noP 0 e w w' := by
  have HG := Lib.hid (fun w : World => fget_tri s a b y 0 h (by omega) w)
  have HO := Lib.hid (fun w : World => wget_any b hb k1 k2 k3 k4 k5 900 ho w)
  clear h ho
  go_enter Try.func38, Try.ntmps38
  go_wp2_with fail
  refine (HG.out _).mono ?_; rintro e w1 ⟨rfl, b1⟩
  have h1 : Has w1 w.heap.size 49 (opC noP) := (Has.made w _ _).below b1 (by simp)
  have c1 : Below w.heap.size w w1 := ((Below.refl _ _).alloc (Nat.le_refl _) _).trans (b1.mono (by simp))
  clear b1
  go_wp2_with fail
  refine (HO.out _).mono ?_; rintro e w2 ⟨rfl, b2⟩
  have h2 := h1.below b2 h1.lt
  have c2 := c1.trans (b2.mono c1.size)
  clear b2 h1 c1
  have h3 : ∀ v, Has (w2.alloc v) w.heap.size 49 (opC noP) := fun v => h2.alloc v
  go_wp2_with (refine store_op rfl _ _ rfl _ rfl rfl (h3 _) rfl ?_)
  exact bodyPost_ret (ret_mid _ _ w.heap.size noP rfl rfl ((h3 _).row _)) rfl ⟨rfl, below_row (c2.alloc c2.size _) (Nat.le_refl _) _⟩

set_option maxRecDepth 100000 in
set_option maxHeartbeats 1000000 in
theorem look_y (s b : ByteArray) (a y : Int) (w : World) (hs : s.size ≤ 1000000000000) (h : getF s.data.toList a = (b, y, 0)) (hb : b.size ≤ maxLen) (k1 k2 k3 k4 k5 : Int) (ho : getO b.data.toList = ((k1, k2, k3, k4, k5), 0)) :
    Calls Try.prog 38 #[.string s, .int .i64 a] w fun e w' => LookO 1 ⟨k1, k2, k3, k4, k5⟩ y e w w' := by
  have HG := Lib.hid (fun w : World => fget_tri s a b y 0 h (by omega) w)
  have HO := Lib.hid (fun w : World => wget_any b hb k1 k2 k3 k4 k5 0 ho w)
  clear h ho
  go_enter Try.func38, Try.ntmps38
  go_wp2_with fail
  refine (HG.out _).mono ?_; rintro e w1 ⟨rfl, b1⟩
  have h1 : Has w1 w.heap.size 49 (opC noP) := (Has.made w _ _).below b1 (by simp)
  have c1 : Below w.heap.size w w1 := ((Below.refl _ _).alloc (Nat.le_refl _) _).trans (b1.mono (by simp))
  clear b1
  go_wp2_with fail
  refine (HO.out _).mono ?_; rintro e w2 ⟨rfl, b2⟩
  have h2 := h1.below b2 h1.lt
  have c2 := c1.trans (b2.mono c1.size)
  clear b2 h1 c1
  have h3 : ∀ v, Has (w2.alloc v) w.heap.size 49 (opC noP) := fun v => h2.alloc v
  go_wp2_with fail
  refine lk9_any (x := ⟨k1, k2, k3, k4, k5⟩) (g := w2.heap.size) (y := y) ⟨rfl, rfl, rfl, Has.made w2 _ _⟩ (by kernel_rfl) (fun w5 b5 => ?_) (fun w5 b5 => ?_)
  all_goals
    have h5 := (h3 _).below b5 (h3 _).lt
    have c5 := (c2.alloc c2.size (.cells (opC ⟨k1, k2, k3, k4, k5⟩) 49)).trans (b5.mono (by have := c2.size; simp; omega))
    clear h3 h2 c2 b5
    simp only [putAll, Act.put, List.setIfInBounds_toArray, List.set_cons_succ, List.set_cons_zero, List.drop_succ_cons, List.drop_zero, pickL, List.filterMap_cons, List.getElem?_cons_succ, List.getElem?_cons_zero, List.filterMap_nil]
    refine store_op rfl _ _ rfl _ rfl rfl h5 rfl ?_
    go_wp2_with fail
    exact bodyPost_ret (ret_mid _ _ w.heap.size ⟨k1, k2, k3, k4, k5⟩ rfl rfl (h5.row _)) rfl ⟨rfl, below_row c5 (Nat.le_refl _) _⟩

theorem look_any (s : ByteArray) (a : Nat) (w : World) (hs : s.size ≤ 1000000000000) (ha : a ≤ s.size) (st : Nat) (o : Po) (k : Nat) (z : Int) (h : lookL (s.data.toList.drop a) = (st, o, k)) (hz : z = if st = 1 then ((a + k : Nat) : Int) else 0) :
    Calls Try.prog 38 #[.string s, .int .i64 a] w fun e w' => LookO st o z e w w' := by
  have hl : a ≤ s.data.toList.length := by simpa using ha
  rcases getL_cases (s.data.toList.drop a) with ⟨hg, _⟩ | ⟨hg, _⟩ | ⟨b, t, h1, h60, _, hg⟩
  · rw [look_cut hg] at h
    injection h with h1 h
    injection h with h2 h3
    subst h1 h2 h3 hz
    exact look_c s _ a _ w hs (getF_err hl (by decide) hg)
  · rw [look_bad hg (by decide) (by decide)] at h
    injection h with h1 h
    injection h with h2 h3
    subst h1 h2 h3 hz
    exact look_b s _ a _ w hs (getF_err hl (by decide) hg)
  · have hb : (⟨b.toArray⟩ : ByteArray).size ≤ maxLen := by
      show b.toArray.size ≤ maxLen
      unfold maxLen; simp; omega
    rcases getO_back b with ⟨k1, k2, k3, k4, k5, _, ho, _⟩ | ho
    · rw [look_op hg ho] at h
      injection h with h1 h
      injection h with h2 h3
      subst h1 h2 h3 hz
      have := look_y s ⟨b.toArray⟩ a _ w hs (getF_ok hl hg) hb k1 k2 k3 k4 k5 ho
      rw [if_pos rfl, Int.natCast_add]
      exact this
    · rw [look_no hg ho (by decide)] at h
      injection h with h1 h
      injection h with h2 h3
      subst h1 h2 h3 hz
      exact look_n s ⟨b.toArray⟩ a _ w hs (getF_ok hl hg) hb 0 0 0 0 0 ho

end Go.Proofs.Ytoechlmahckchaa

namespace Go.Proofs.Ytoechlmahckchaa
open Go.RowKit

set_option maxRecDepth 100000 in
set_option maxHeartbeats 1000000 in
theorem maywait_any (s : ByteArray) (w : World) (hs : s.size ≤ 1000000000000) (st : Nat) (o : Po) (k : Nat) (h : lookL s.data.toList = (st, o, k)) (v : Bool) (hv : ((st : Int) == 2) = v) :
    Calls Try.prog 27 #[.string s] w fun e w' => e = .returned (.bool v) ∧ Below w.heap.size w w' := by
  obtain ⟨z, hz⟩ : ∃ z : Int, z = if st = 1 then ((0 + k : Nat) : Int) else 0 := ⟨_, rfl⟩
  have HL := Lib.hid (fun w : World => look_any s 0 w hs (Nat.zero_le _) st o k z h hz)
  clear h hz
  generalize (st : Int) = t at hv HL
  subst hv
  go_enter Try.func27, Try.ntmps27
  go_wp2_with fail
  refine (HL.out _).mono ?_; rintro e w1 ⟨rfl, b1⟩
  have h1 : Has (w1.alloc (.cells #[.int .i64 0, .int .i64 0, .int .i64 0, .int .i64 0, .int .i64 0] 49)) w1.heap.size 49 (opC noP) := Has.made w1 _ _
  go_wp2_with fail
  go_ret
  exact ⟨rfl, b1.alloc b1.size _⟩

set_option maxRecDepth 100000 in
set_option maxHeartbeats 1000000 in
theorem here_e (s b : ByteArray) (a y z : Int) (q : Bool) (w : World) (hs : s.size ≤ 1000000000000) (h : getF s.data.toList a = (b, y, z)) (hz : z ≠ 0) (hq : (z == 801) = q) :
    Calls Try.prog 40 #[.string s, .int .i64 a] w fun e w' => HereO noP 0 false q e w w' := by
  have HG := Lib.hid (fun w : World => frget_tri s a b y z h (by omega) w)
  have hz2 : (z != 0) = true := by simpa using hz
  clear h hz
  subst hq
  go_enter Try.func40, Try.ntmps40
  go_wp2_with fail
  refine (HG.out _).mono ?_; rintro e w1 ⟨rfl, rfl⟩
  have h1 : Has (w.alloc (.cells #[.int .i64 0, .int .i64 0, .int .i64 0, .int .i64 0, .int .i64 0] 49)) w.heap.size 49 (opC noP) := Has.made w _ _
  go_wp2_with (refine store_op rfl _ _ rfl _ rfl rfl h1 rfl ?_)
  exact bodyPost_ret (ret_four _ _ w.heap.size noP rfl rfl (h1.row _)) rfl ⟨rfl, below_row ((Below.refl _ _).alloc (Nat.le_refl _) _) (Nat.le_refl _) _⟩

set_option maxRecDepth 100000 in
set_option maxHeartbeats 1000000 in
theorem here_o (s b : ByteArray) (a y z : Int) (p : Bool) (w : World) (hs : s.size ≤ 1000000000000) (h : getF s.data.toList a = (b, y, 0)) (hb : b.size ≤ maxLen) (k1 k2 k3 k4 k5 : Int) (ho : getO b.data.toList = ((k1, k2, k3, k4, k5), z)) (hp : (z == 0) = p) :
    Calls Try.prog 40 #[.string s, .int .i64 a] w fun e w' => HereO ⟨k1, k2, k3, k4, k5⟩ y p false e w w' := by
  have HG := Lib.hid (fun w : World => frget_tri s a b y 0 h (by omega) w)
  have HO := Lib.hid (fun w : World => rwget_any b hb k1 k2 k3 k4 k5 z ho w)
  clear h ho
  subst hp
  go_enter Try.func40, Try.ntmps40
  go_wp2_with fail
  refine (HG.out _).mono ?_; rintro e w1 ⟨rfl, rfl⟩
  have h1 : Has (w.alloc (.cells #[.int .i64 0, .int .i64 0, .int .i64 0, .int .i64 0, .int .i64 0] 49)) w.heap.size 49 (opC noP) := Has.made w _ _
  have c1 : Below w.heap.size w (w.alloc (.cells #[.int .i64 0, .int .i64 0, .int .i64 0, .int .i64 0, .int .i64 0] 49)) := (Below.refl _ _).alloc (Nat.le_refl _) _
  go_wp2_with fail
  refine (HO.out _).mono ?_; rintro e w2 ⟨rfl, b2⟩
  have h2 := h1.below b2 h1.lt
  have c2 := c1.trans (b2.mono c1.size)
  clear b2 h1 c1
  have h3 : ∀ v, Has (w2.alloc v) w.heap.size 49 (opC noP) := fun v => h2.alloc v
  have h4 : Has (w2.alloc (.cells #[.int .i64 k1, .int .i64 k2, .int .i64 k3, .int .i64 k4, .int .i64 k5] 49)) w2.heap.size 49 #[.int .i64 k1, .int .i64 k2, .int .i64 k3, .int .i64 k4, .int .i64 k5] := Has.made w2 _ _
  go_wp2_with (first
    | (refine load_op rfl _ rfl _ rfl h4 ?_)
    | (refine store_op rfl _ _ rfl _ rfl rfl (h3 _) rfl ?_))
  exact bodyPost_ret (ret_four _ _ w.heap.size ⟨k1, k2, k3, k4, k5⟩ rfl rfl ((h3 _).row _)) rfl ⟨rfl, below_row (c2.alloc c2.size _) (Nat.le_refl _) _⟩

theorem here_any (s : ByteArray) (a : Nat) (hs : s.size ≤ 1000000000000) (ha : a ≤ s.size) (st : Nat) (o : Po) (k : Nat) (h : lookL (s.data.toList.drop a) = (st, o, k)) :
    ∃ (x : Po) (z : Int), (st = 1 → x = o ∧ z = ((a + k : Nat) : Int)) ∧ ∀ p q : Bool, ((st : Int) == 1) = p → ((st : Int) == 2) = q → ∀ w : World,
    Calls Try.prog 40 #[.string s, .int .i64 a] w fun e w' => HereO x z p q e w w' := by
  have hl : a ≤ s.data.toList.length := by simpa using ha
  rcases getL_cases (s.data.toList.drop a) with ⟨hg, _⟩ | ⟨hg, _⟩ | ⟨b, t, h1, h60, _, hg⟩
  · rw [look_cut hg] at h
    injection h with h1 h
    subst h1
    refine ⟨noP, 0, (fun h => by cases h), fun p q hp hq w => ?_⟩
    subst hp hq
    exact here_e s _ a _ 801 true w hs (getF_err hl (by decide) hg) (by decide) rfl
  · rw [look_bad hg (by decide) (by decide)] at h
    injection h with h1 h
    subst h1
    refine ⟨noP, 0, (fun h => by cases h), fun p q hp hq w => ?_⟩
    subst hp hq
    exact here_e s _ a _ 800 false w hs (getF_err hl (by decide) hg) (by decide) rfl
  · have hb : (⟨b.toArray⟩ : ByteArray).size ≤ maxLen := by
      show b.toArray.size ≤ maxLen
      unfold maxLen; simp; omega
    rcases getO_back b with ⟨k1, k2, k3, k4, k5, _, ho, _⟩ | ho
    · rw [look_op hg ho] at h
      injection h with h1 h
      injection h with h2 h3
      subst h1 h2 h3
      refine ⟨⟨k1, k2, k3, k4, k5⟩, ((a + (b.length + 4) : Nat) : Int), fun _ => ⟨rfl, rfl⟩, fun p q hp hq w => ?_⟩
      subst hp hq
      have := here_o s ⟨b.toArray⟩ a _ 0 true w hs (getF_ok hl hg) hb k1 k2 k3 k4 k5 ho rfl
      rw [Int.natCast_add]
      exact this
    · rw [look_no hg ho (by decide)] at h
      injection h with h1 h
      subst h1
      refine ⟨noP, ((a + (b.length + 4) : Nat) : Int), (fun h => by cases h), fun p q hp hq w => ?_⟩
      subst hp hq
      have := here_o s ⟨b.toArray⟩ a _ 900 false w hs (getF_ok hl hg) hb 0 0 0 0 0 ho rfl
      rw [Int.natCast_add]
      exact this

end Go.Proofs.Ytoechlmahckchaa

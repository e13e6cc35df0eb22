/-
  Walk: WireUnlike: of unlike operations the bytes are unlike.
-/
import Derived.Test.YtadejalbmpfdmaaWiAwake
import Derived.Test.YtadejalbmpfdmaaWiBackR
namespace Go.Proofs.Ytadejalbmpfdmaa
open Go.RowKit

theorem putO_yes {kd so se ti va : Int} (h : MayO kd so se ti va) : putO kd so se ti va = (⟨(encs (numsO kd so se ti va)).toArray⟩, 0) := if_pos (mayB_yes h)
theorem putO_no {kd so se ti va : Int} (h : ¬ MayO kd so se ti va) : putO kd so se ti va = (⟨#[]⟩, 900) := if_neg (by rw [mayB_no h]; simp)
theorem lists_ne {S T : ByteArray} (h : ¬ S = T) : (S.toList == T.toList) = false := by
  rw [beq_eq_false_iff_ne]
  intro e
  rw [ByteArray.toList_eq, ByteArray.toList_eq] at e
  exact h (Go.WideShapes.bytes_inj e)
theorem bytes_toList (l : List UInt8) : (⟨l.toArray⟩ : ByteArray).data.toList = l := by simp
theorem bytes_ne {l m : List UInt8} (h : l ≠ m) : ¬ (⟨l.toArray⟩ : ByteArray) = ⟨m.toArray⟩ := fun e => h (by rw [← bytes_toList l, e, bytes_toList])

set_option maxRecDepth 100000 in
set_option maxHeartbeats 400000 in
/-- The way where one of the two is none. -/
theorem unlike_bad (k1 k2 k3 k4 k5 j1 j2 j3 j4 j5 : Int) (p q : ByteArray) (y z : Int) (w : World) (hp : putO k1 k2 k3 k4 k5 = (p, y)) (hq : putO j1 j2 j3 j4 j5 = (q, z)) (h : y ≠ 0 ∨ z ≠ 0) :
    Calls Try.prog 6 #[.agg #[.int .i64 k1, .int .i64 k2, .int .i64 k3, .int .i64 k4, .int .i64 k5], .agg #[.int .i64 j1, .int .i64 j2, .int .i64 j3, .int .i64 j4, .int .i64 j5]] w fun e w' => e = .returned (.bool true) ∧ Below w.heap.size w w' := by
  have HA := Lib.hid (fun w : World => awake_any w)
  have P1 := Lib.hid (fun w : World => wput_any k1 k2 k3 k4 k5 p y hp w)
  have P2 := Lib.hid (fun w : World => wput_any j1 j2 j3 j4 j5 q z hq w)
  clear hp hq
  by_cases hy : y = 0
  · have q1 : (z != 0) = true := by simpa using h.resolve_left (fun k => k hy)
    subst hy
    clear h
    go_enter Try.func6, Try.ntmps6
    go_wp2_with fail
    have h0 := (Has.made w 23 #[.int .i64 k1, .int .i64 k2, .int .i64 k3, .int .i64 k4, .int .i64 k5]).alloc (.cells #[.int .i64 j1, .int .i64 j2, .int .i64 j3, .int .i64 j4, .int .i64 j5] 23)
    have i0 : Has ((w.alloc (.cells #[.int .i64 k1, .int .i64 k2, .int .i64 k3, .int .i64 k4, .int .i64 k5] 23)).alloc (.cells #[.int .i64 j1, .int .i64 j2, .int .i64 j3, .int .i64 j4, .int .i64 j5] 23)) (w.heap.size + 1) 23 #[.int .i64 j1, .int .i64 j2, .int .i64 j3, .int .i64 j4, .int .i64 j5] := by simpa using Has.made (w.alloc (.cells #[.int .i64 k1, .int .i64 k2, .int .i64 k3, .int .i64 k4, .int .i64 k5] 23)) 23 #[.int .i64 j1, .int .i64 j2, .int .i64 j3, .int .i64 j4, .int .i64 j5]
    have c0 := (((Below.refl w.heap.size w).alloc (Nat.le_refl _) (.cells #[.int .i64 k1, .int .i64 k2, .int .i64 k3, .int .i64 k4, .int .i64 k5] 23)).alloc (by simp) (.cells #[.int .i64 j1, .int .i64 j2, .int .i64 j3, .int .i64 j4, .int .i64 j5] 23))
    refine (HA.out _).mono ?_; rintro e w1 ⟨rfl, b1⟩
    have h1 := h0.below b1 h0.lt
    have i1 := i0.below b1 i0.lt
    have c1 := c0.trans (b1.mono c0.size)
    clear h0 i0 c0 b1
    go_wp2_with (refine load_op rfl _ rfl _ rfl h1 ?_)
    refine (P1.out _).mono ?_; rintro e w2 ⟨rfl, b2⟩
    have i2 := i1.below b2 i1.lt
    have c2 := c1.trans (b2.mono c1.size)
    clear h1 i1 c1 b2
    go_wp2_with (refine load_op rfl _ rfl _ rfl i2 ?_)
    refine (P2.out _).mono ?_; rintro e w3 ⟨rfl, b3⟩
    have c3 := c2.trans (b3.mono c2.size)
    clear i2 c2 b3
    go_wp2_with (go_at_call 11; refine (num_any _ _).mono ?_; rintro e w' ⟨rfl, rfl⟩)
    go_ret
    exact ⟨rfl, c3⟩
  · have q1 : (y != 0) = true := by simpa using hy
    clear h hy
    go_enter Try.func6, Try.ntmps6
    go_wp2_with fail
    have h0 := (Has.made w 23 #[.int .i64 k1, .int .i64 k2, .int .i64 k3, .int .i64 k4, .int .i64 k5]).alloc (.cells #[.int .i64 j1, .int .i64 j2, .int .i64 j3, .int .i64 j4, .int .i64 j5] 23)
    have i0 : Has ((w.alloc (.cells #[.int .i64 k1, .int .i64 k2, .int .i64 k3, .int .i64 k4, .int .i64 k5] 23)).alloc (.cells #[.int .i64 j1, .int .i64 j2, .int .i64 j3, .int .i64 j4, .int .i64 j5] 23)) (w.heap.size + 1) 23 #[.int .i64 j1, .int .i64 j2, .int .i64 j3, .int .i64 j4, .int .i64 j5] := by simpa using Has.made (w.alloc (.cells #[.int .i64 k1, .int .i64 k2, .int .i64 k3, .int .i64 k4, .int .i64 k5] 23)) 23 #[.int .i64 j1, .int .i64 j2, .int .i64 j3, .int .i64 j4, .int .i64 j5]
    have c0 := (((Below.refl w.heap.size w).alloc (Nat.le_refl _) (.cells #[.int .i64 k1, .int .i64 k2, .int .i64 k3, .int .i64 k4, .int .i64 k5] 23)).alloc (by simp) (.cells #[.int .i64 j1, .int .i64 j2, .int .i64 j3, .int .i64 j4, .int .i64 j5] 23))
    refine (HA.out _).mono ?_; rintro e w1 ⟨rfl, b1⟩
    have h1 := h0.below b1 h0.lt
    have i1 := i0.below b1 i0.lt
    have c1 := c0.trans (b1.mono c0.size)
    clear h0 i0 c0 b1
    go_wp2_with (refine load_op rfl _ rfl _ rfl h1 ?_)
    refine (P1.out _).mono ?_; rintro e w2 ⟨rfl, b2⟩
    have i2 := i1.below b2 i1.lt
    have c2 := c1.trans (b2.mono c1.size)
    clear h1 i1 c1 b2
    go_wp2_with (refine load_op rfl _ rfl _ rfl i2 ?_)
    refine (P2.out _).mono ?_; rintro e w3 ⟨rfl, b3⟩
    have c3 := c2.trans (b3.mono c2.size)
    clear i2 c2 b3
    go_wp2_with (go_at_call 11; refine (num_any _ _).mono ?_; rintro e w' ⟨rfl, rfl⟩)
    go_ret
    exact ⟨rfl, c3⟩

set_option maxRecDepth 100000 in
set_option maxHeartbeats 400000 in
/-- The way where both are operations. -/
theorem unlike_ok (k1 k2 k3 k4 k5 j1 j2 j3 j4 j5 : Int) (p q : ByteArray) (w : World) (hp : putO k1 k2 k3 k4 k5 = (p, 0)) (hq : putO j1 j2 j3 j4 j5 = (q, 0))
    (h : (p = q ∧ k1 = j1 ∧ k2 = j2 ∧ k3 = j3 ∧ k4 = j4 ∧ k5 = j5) ∨ (¬ p = q ∧ ¬ (k1 = j1 ∧ k2 = j2 ∧ k3 = j3 ∧ k4 = j4 ∧ k5 = j5))) :
    Calls Try.prog 6 #[.agg #[.int .i64 k1, .int .i64 k2, .int .i64 k3, .int .i64 k4, .int .i64 k5], .agg #[.int .i64 j1, .int .i64 j2, .int .i64 j3, .int .i64 j4, .int .i64 j5]] w fun e w' => e = .returned (.bool true) ∧ Below w.heap.size w w' := by
  have HA := Lib.hid (fun w : World => awake_any w)
  have P1 := Lib.hid (fun w : World => wput_any k1 k2 k3 k4 k5 p 0 hp w)
  have P2 := Lib.hid (fun w : World => wput_any j1 j2 j3 j4 j5 q 0 hq w)
  clear hp hq
  go_enter Try.func6, Try.ntmps6
  have HH := Lib.hid h
  clear h
  go_wp2_with fail
  have h0 := (Has.made w 23 #[.int .i64 k1, .int .i64 k2, .int .i64 k3, .int .i64 k4, .int .i64 k5]).alloc (.cells #[.int .i64 j1, .int .i64 j2, .int .i64 j3, .int .i64 j4, .int .i64 j5] 23)
  have i0 : Has ((w.alloc (.cells #[.int .i64 k1, .int .i64 k2, .int .i64 k3, .int .i64 k4, .int .i64 k5] 23)).alloc (.cells #[.int .i64 j1, .int .i64 j2, .int .i64 j3, .int .i64 j4, .int .i64 j5] 23)) (w.heap.size + 1) 23 #[.int .i64 j1, .int .i64 j2, .int .i64 j3, .int .i64 j4, .int .i64 j5] := by simpa using Has.made (w.alloc (.cells #[.int .i64 k1, .int .i64 k2, .int .i64 k3, .int .i64 k4, .int .i64 k5] 23)) 23 #[.int .i64 j1, .int .i64 j2, .int .i64 j3, .int .i64 j4, .int .i64 j5]
  have c0 := (((Below.refl w.heap.size w).alloc (Nat.le_refl _) (.cells #[.int .i64 k1, .int .i64 k2, .int .i64 k3, .int .i64 k4, .int .i64 k5] 23)).alloc (by simp) (.cells #[.int .i64 j1, .int .i64 j2, .int .i64 j3, .int .i64 j4, .int .i64 j5] 23))
  refine (HA.out _).mono ?_; rintro e w1 ⟨rfl, b1⟩
  have h1 := h0.below b1 h0.lt
  have i1 := i0.below b1 i0.lt
  have c1 := c0.trans (b1.mono c0.size)
  clear h0 i0 c0 b1
  go_wp2_with (refine load_op rfl _ rfl _ rfl h1 ?_)
  refine (P1.out _).mono ?_; rintro e w2 ⟨rfl, b2⟩
  have h2 := h1.below b2 h1.lt
  have i2 := i1.below b2 i1.lt
  have c2 := c1.trans (b2.mono c1.size)
  clear h1 i1 c1 b2
  go_wp2_with (refine load_op rfl _ rfl _ rfl i2 ?_)
  refine (P2.out _).mono ?_; rintro e w3 ⟨rfl, b3⟩
  have h3 := h2.below b3 h2.lt
  have i3 := i2.below b3 i2.lt
  have c3 := c2.trans (b3.mono c2.size)
  clear h2 i2 c2 b3 HA P1 P2
  rcases HH.out with ⟨rfl, rfl, rfl, rfl, rfl, rfl⟩ | ⟨hn, hk⟩
  · clear HH
    go_wp2_with (first
      | (go_at_call 11; refine (num_any _ _).mono ?_; rintro e w' ⟨rfl, rfl⟩)
      | (refine load_op rfl _ rfl _ rfl h3 ?_)
      | (refine load_op rfl _ rfl _ rfl i3 ?_))
    go_ret
    exact ⟨rfl, c3⟩
  · have qs := lists_ne hn
    have HK := Lib.hid hk
    clear HH hn hk
    go_wp2_with (first
      | (go_at_call 11; refine (num_any _ _).mono ?_; rintro e w' ⟨rfl, rfl⟩)
      | (refine load_op rfl _ rfl _ rfl h3 ?_)
      | (refine load_op rfl _ rfl _ rfl i3 ?_))
    all_goals first
      | exact absurd ⟨by assumption, by assumption, by assumption, by assumption, by assumption⟩ HK.out
      | (go_ret; exact ⟨rfl, c3⟩)

theorem unlike_any (k1 k2 k3 k4 k5 j1 j2 j3 j4 j5 : Int) (w : World) (_ : (Lit.int .i64 k1).wf = true ∧ (Lit.int .i64 k2).wf = true ∧ (Lit.int .i64 k3).wf = true ∧ (Lit.int .i64 k4).wf = true ∧ (Lit.int .i64 k5).wf = true) (_ : (Lit.int .i64 j1).wf = true ∧ (Lit.int .i64 j2).wf = true ∧ (Lit.int .i64 j3).wf = true ∧ (Lit.int .i64 j4).wf = true ∧ (Lit.int .i64 j5).wf = true) :
    Calls Try.prog 6 #[.agg #[.int .i64 k1, .int .i64 k2, .int .i64 k3, .int .i64 k4, .int .i64 k5], .agg #[.int .i64 j1, .int .i64 j2, .int .i64 j3, .int .i64 j4, .int .i64 j5]] w fun e w' => e = .returned (.bool true) ∧ Below w.heap.size w w' := by
  by_cases h : MayO k1 k2 k3 k4 k5
  · by_cases h' : MayO j1 j2 j3 j4 j5
    · refine unlike_ok k1 k2 k3 k4 k5 j1 j2 j3 j4 j5 _ _ w (putO_yes h) (putO_yes h') ?_
      by_cases e : k1 = j1 ∧ k2 = j2 ∧ k3 = j3 ∧ k4 = j4 ∧ k5 = j5
      · obtain ⟨rfl, rfl, rfl, rfl, rfl⟩ := e
        exact .inl ⟨rfl, rfl, rfl, rfl, rfl, rfl⟩
      · exact .inr ⟨bytes_ne fun he => e (numsO_inj h h' he), e⟩
    · exact unlike_bad k1 k2 k3 k4 k5 j1 j2 j3 j4 j5 _ _ _ _ w (putO_yes h) (putO_no h') (.inr (by decide))
  · obtain ⟨q, z, hq⟩ : ∃ q z, putO j1 j2 j3 j4 j5 = (q, z) := ⟨_, _, rfl⟩
    exact unlike_bad k1 k2 k3 k4 k5 j1 j2 j3 j4 j5 _ _ _ _ w (putO_no h) hq (.inl (by decide))

end Go.Proofs.Ytadejalbmpfdmaa

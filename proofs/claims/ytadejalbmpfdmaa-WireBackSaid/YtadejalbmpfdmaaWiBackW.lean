/-
  Walk: WireBack: there and back (written by gen/wibw.py).
-/
import Derived.Test.YtadejalbmpfdmaaWiBk4
namespace Go.Proofs.Ytadejalbmpfdmaa
open Go.RowKit

theorem place_of (a : Int) (n : Nat) (h0 : 0 < n) (hn : n ≤ 140737488355328) : ∃ k : Nat, k < n ∧ wrap64 ((IntKind.u64.wrap a).tmod (n : Int)) = k := by
  have h1 : 0 ≤ IntKind.u64.wrap a := by rw [IntKind.wrap_u64]; omega
  have h2 := Int.tmod_nonneg (n : Int) h1
  have h3 := Int.tmod_lt_of_pos (IntKind.u64.wrap a) (show (0 : Int) < n by omega)
  obtain ⟨k, hk⟩ := Int.eq_ofNat_of_zero_le h2
  rw [hk] at h3 ⊢
  exact ⟨k, by omega, by unfold wrap64; omega⟩
theorem cut_list (S : ByteArray) (n : Nat) : (S.extract 0 n).data.toList = S.data.toList.take n := by
  rw [ByteArray.data_extract, Array.toList_extract]
  simp [List.extract]

set_option maxRecDepth 100000 in
set_option maxHeartbeats 600000 in
theorem wback_gg (kd so se ti va : Int) (p s : ByteArray) (c : Int) (w : World)
    (HP : Hid (∀ w, Calls Try.prog 7 #[.agg #[.int .i64 kd, .int .i64 so, .int .i64 se, .int .i64 ti, .int .i64 va]] w fun e w' => e = .returned (.tuple #[.string p, .int .i64 0]) ∧ Below w.heap.size w w'))
    (HM : Hid (∀ w, Calls Try.prog 12 #[.agg #[.int .i64 kd, .int .i64 so, .int .i64 se, .int .i64 ti, .int .i64 va]] w fun e w' => e = .returned (.bool true) ∧ Below w.heap.size w w'))
    (n : 0 < p.size ∧ p.size ≤ 60)
    (k : Nat)
    (hk : k < p.size)
    (hka : wrap64 ((IntKind.u64.wrap c).tmod (p.size : Int)) = k)
    (GA : Hid (∀ w, Calls Try.prog 9 #[.string p] w fun e w' => e = .returned (.tuple #[.agg #[.int .i64 kd, .int .i64 so, .int .i64 se, .int .i64 ti, .int .i64 va], .int .i64 0]) ∧ Below w.heap.size w w'))
    (GB : Hid (∀ w, Calls Try.prog 9 #[.string (p.extract 0 k)] w fun e w' => e = .returned (.tuple #[.agg #[.int .i64 0, .int .i64 0, .int .i64 0, .int .i64 0, .int .i64 0], .int .i64 900]) ∧ Below w.heap.size w w'))
    (k1 k2 k3 k4 k5 : Int)
    (GS : Hid (∀ w, Calls Try.prog 9 #[.string s] w fun e w' => e = .returned (.tuple #[.agg #[.int .i64 k1, .int .i64 k2, .int .i64 k3, .int .i64 k4, .int .i64 k5], .int .i64 0]) ∧ Below w.heap.size w w'))
    (PS : Hid (∀ w, Calls Try.prog 7 #[.agg #[.int .i64 k1, .int .i64 k2, .int .i64 k3, .int .i64 k4, .int .i64 k5]] w fun e w' => e = .returned (.tuple #[.string s, .int .i64 0]) ∧ Below w.heap.size w w')) :
    Calls Try.prog 4 #[.agg #[.int .i64 kd, .int .i64 so, .int .i64 se, .int .i64 ti, .int .i64 va], .string s, .int .i64 c] w fun e w' => e = .returned (.bool true) ∧ Below w.heap.size w w' := by
  have HA := Lib.hid (fun w : World => awake_any w)
  have hn0 : 0 < p.size := n.1
  have HN := Lib.hid n
  have hkp : (k : Int) ≤ (p.size : Int) := by omega
  have hp0 : ¬ (p.size : Int) = 0 := by omega
  have wn : IntKind.u64.wrap (p.size : Int) = (p.size : Int) := by rw [IntKind.wrap_u64]; omega
  clear n hk
  go_enter Try.func4, Try.ntmps4
  go_wp2_with fail
  have h0 := Has.made w 23 #[.int .i64 kd, .int .i64 so, .int .i64 se, .int .i64 ti, .int .i64 va]
  have c0 := (Below.refl w.heap.size w).alloc (Nat.le_refl _) (.cells #[.int .i64 kd, .int .i64 so, .int .i64 se, .int .i64 ti, .int .i64 va] 23)
  refine (HA.out _).mono ?_; rintro e w1 ⟨rfl, b1⟩
  have h1 := h0.below b1 h0.lt
  have c1 := c0.trans (b1.mono c0.size)
  clear h0 c0 b1
  go_wp2_with (refine load_op rfl _ rfl _ rfl h1 ?_)
  refine (HP.out _).mono ?_; rintro e w2 ⟨rfl, b2⟩
  have h2 := h1.below b2 h1.lt
  have c2 := c1.trans (b2.mono c1.size)
  clear h1 c1 b2
  go_wp2_with fail
  refine bk4_any (kd := kd) (so := so) (se := se) (ti := ti) (va := va) (p := p) (g := w.heap.size) ⟨rfl, rfl, rfl, rfl, h2, HN.out, HM.out⟩ rfl (fun w3 b3 => ?_)
  have h3 := h2.below b3 h2.lt
  have c3 := c2.trans (b3.mono c2.size)
  clear h2 c2 b3
  simp only [putAll, Act.put, List.setIfInBounds_toArray, List.set_cons_succ, List.set_cons_zero]
  go_wp2_with (go_at_call 11; refine (num_any _ _).mono ?_; rintro e w' ⟨rfl, rfl⟩)
  refine (GA.out _).mono ?_; rintro e w4 ⟨rfl, b4⟩
  have h4 := h3.below b4 h3.lt
  have c4 := c3.trans (b4.mono c3.size)
  clear h3 c3 b4
  go_wp2_with fail
  have h5 := h4.alloc (.cells #[.int .i64 kd, .int .i64 so, .int .i64 se, .int .i64 ti, .int .i64 va] 23)
  have i5 := Has.made w4 23 #[.int .i64 kd, .int .i64 so, .int .i64 se, .int .i64 ti, .int .i64 va]
  have c5 := c4.alloc c4.size (.cells #[.int .i64 kd, .int .i64 so, .int .i64 se, .int .i64 ti, .int .i64 va] 23)
  clear h4 c4
  refine (GB.out _).mono ?_; rintro e w6 ⟨rfl, b6⟩
  have h6 := h5.below b6 h5.lt
  have i6 := i5.below b6 i5.lt
  have c6 := c5.trans (b6.mono c5.size)
  clear h5 i5 c5 b6
  have h7 := h6.alloc (.cells #[.int .i64 0, .int .i64 0, .int .i64 0, .int .i64 0, .int .i64 0] 23)
  have i7 := i6.alloc (.cells #[.int .i64 0, .int .i64 0, .int .i64 0, .int .i64 0, .int .i64 0] 23)
  have c7 := c6.alloc c6.size (.cells #[.int .i64 0, .int .i64 0, .int .i64 0, .int .i64 0, .int .i64 0] 23)
  go_wp2_with (first
    | (go_at_call 11; refine (num_any _ _).mono ?_; rintro e w' ⟨rfl, rfl⟩)
    | (refine load_op rfl _ rfl _ rfl h7 ?_)
    | (refine load_op rfl _ rfl _ rfl i7 ?_))
  clear h6 i6 c6 h7 i7
  refine (GS.out _).mono ?_; rintro e w8 ⟨rfl, b8⟩
  have c8 := c7.trans (b8.mono c7.size)
  clear b8 c7
  have c9 := c8.alloc c8.size (.cells #[.int .i64 k1, .int .i64 k2, .int .i64 k3, .int .i64 k4, .int .i64 k5] 23)
  have h9 := Has.made w8 23 #[.int .i64 k1, .int .i64 k2, .int .i64 k3, .int .i64 k4, .int .i64 k5]
  go_wp2_with (first
    | (go_at_call 11; refine (num_any _ _).mono ?_; rintro e w' ⟨rfl, rfl⟩)
    | (refine load_op rfl _ rfl _ rfl h9 ?_))
  refine (PS.out _).mono ?_; rintro e wa ⟨rfl, ba⟩
  have ca := c9.trans (ba.mono c9.size)
  clear ba c9 h9
  go_wp2_with (go_at_call 11; refine (num_any _ _).mono ?_; rintro e w' ⟨rfl, rfl⟩)
  go_ret
  exact ⟨rfl, ca⟩
set_option maxRecDepth 100000 in
set_option maxHeartbeats 600000 in
theorem wback_gb (kd so se ti va : Int) (p s : ByteArray) (c : Int) (w : World)
    (HP : Hid (∀ w, Calls Try.prog 7 #[.agg #[.int .i64 kd, .int .i64 so, .int .i64 se, .int .i64 ti, .int .i64 va]] w fun e w' => e = .returned (.tuple #[.string p, .int .i64 0]) ∧ Below w.heap.size w w'))
    (HM : Hid (∀ w, Calls Try.prog 12 #[.agg #[.int .i64 kd, .int .i64 so, .int .i64 se, .int .i64 ti, .int .i64 va]] w fun e w' => e = .returned (.bool true) ∧ Below w.heap.size w w'))
    (n : 0 < p.size ∧ p.size ≤ 60)
    (k : Nat)
    (hk : k < p.size)
    (hka : wrap64 ((IntKind.u64.wrap c).tmod (p.size : Int)) = k)
    (GA : Hid (∀ w, Calls Try.prog 9 #[.string p] w fun e w' => e = .returned (.tuple #[.agg #[.int .i64 kd, .int .i64 so, .int .i64 se, .int .i64 ti, .int .i64 va], .int .i64 0]) ∧ Below w.heap.size w w'))
    (GB : Hid (∀ w, Calls Try.prog 9 #[.string (p.extract 0 k)] w fun e w' => e = .returned (.tuple #[.agg #[.int .i64 0, .int .i64 0, .int .i64 0, .int .i64 0, .int .i64 0], .int .i64 900]) ∧ Below w.heap.size w w'))
    (GS : Hid (∀ w, Calls Try.prog 9 #[.string s] w fun e w' => e = .returned (.tuple #[.agg #[.int .i64 0, .int .i64 0, .int .i64 0, .int .i64 0, .int .i64 0], .int .i64 900]) ∧ Below w.heap.size w w')) :
    Calls Try.prog 4 #[.agg #[.int .i64 kd, .int .i64 so, .int .i64 se, .int .i64 ti, .int .i64 va], .string s, .int .i64 c] w fun e w' => e = .returned (.bool true) ∧ Below w.heap.size w w' := by
  have HA := Lib.hid (fun w : World => awake_any w)
  have hn0 : 0 < p.size := n.1
  have HN := Lib.hid n
  have hkp : (k : Int) ≤ (p.size : Int) := by omega
  have hp0 : ¬ (p.size : Int) = 0 := by omega
  have wn : IntKind.u64.wrap (p.size : Int) = (p.size : Int) := by rw [IntKind.wrap_u64]; omega
  clear n hk
  go_enter Try.func4, Try.ntmps4
  go_wp2_with fail
  have h0 := Has.made w 23 #[.int .i64 kd, .int .i64 so, .int .i64 se, .int .i64 ti, .int .i64 va]
  have c0 := (Below.refl w.heap.size w).alloc (Nat.le_refl _) (.cells #[.int .i64 kd, .int .i64 so, .int .i64 se, .int .i64 ti, .int .i64 va] 23)
  refine (HA.out _).mono ?_; rintro e w1 ⟨rfl, b1⟩
  have h1 := h0.below b1 h0.lt
  have c1 := c0.trans (b1.mono c0.size)
  clear h0 c0 b1
  go_wp2_with (refine load_op rfl _ rfl _ rfl h1 ?_)
  refine (HP.out _).mono ?_; rintro e w2 ⟨rfl, b2⟩
  have h2 := h1.below b2 h1.lt
  have c2 := c1.trans (b2.mono c1.size)
  clear h1 c1 b2
  go_wp2_with fail
  refine bk4_any (kd := kd) (so := so) (se := se) (ti := ti) (va := va) (p := p) (g := w.heap.size) ⟨rfl, rfl, rfl, rfl, h2, HN.out, HM.out⟩ rfl (fun w3 b3 => ?_)
  have h3 := h2.below b3 h2.lt
  have c3 := c2.trans (b3.mono c2.size)
  clear h2 c2 b3
  simp only [putAll, Act.put, List.setIfInBounds_toArray, List.set_cons_succ, List.set_cons_zero]
  go_wp2_with (go_at_call 11; refine (num_any _ _).mono ?_; rintro e w' ⟨rfl, rfl⟩)
  refine (GA.out _).mono ?_; rintro e w4 ⟨rfl, b4⟩
  have h4 := h3.below b4 h3.lt
  have c4 := c3.trans (b4.mono c3.size)
  clear h3 c3 b4
  go_wp2_with fail
  have h5 := h4.alloc (.cells #[.int .i64 kd, .int .i64 so, .int .i64 se, .int .i64 ti, .int .i64 va] 23)
  have i5 := Has.made w4 23 #[.int .i64 kd, .int .i64 so, .int .i64 se, .int .i64 ti, .int .i64 va]
  have c5 := c4.alloc c4.size (.cells #[.int .i64 kd, .int .i64 so, .int .i64 se, .int .i64 ti, .int .i64 va] 23)
  clear h4 c4
  refine (GB.out _).mono ?_; rintro e w6 ⟨rfl, b6⟩
  have h6 := h5.below b6 h5.lt
  have i6 := i5.below b6 i5.lt
  have c6 := c5.trans (b6.mono c5.size)
  clear h5 i5 c5 b6
  have h7 := h6.alloc (.cells #[.int .i64 0, .int .i64 0, .int .i64 0, .int .i64 0, .int .i64 0] 23)
  have i7 := i6.alloc (.cells #[.int .i64 0, .int .i64 0, .int .i64 0, .int .i64 0, .int .i64 0] 23)
  have c7 := c6.alloc c6.size (.cells #[.int .i64 0, .int .i64 0, .int .i64 0, .int .i64 0, .int .i64 0] 23)
  go_wp2_with (first
    | (go_at_call 11; refine (num_any _ _).mono ?_; rintro e w' ⟨rfl, rfl⟩)
    | (refine load_op rfl _ rfl _ rfl h7 ?_)
    | (refine load_op rfl _ rfl _ rfl i7 ?_))
  clear h6 i6 c6 h7 i7
  refine (GS.out _).mono ?_; rintro e w8 ⟨rfl, b8⟩
  have c8 := c7.trans (b8.mono c7.size)
  clear b8 c7
  have c9 := c8.alloc c8.size (.cells #[.int .i64 0, .int .i64 0, .int .i64 0, .int .i64 0, .int .i64 0] 23)
  have h9 := Has.made w8 23 #[.int .i64 0, .int .i64 0, .int .i64 0, .int .i64 0, .int .i64 0]
  go_wp2_with (first
    | (go_at_call 11; refine (num_any _ _).mono ?_; rintro e w' ⟨rfl, rfl⟩)
    | (refine load_op rfl _ rfl _ rfl h9 ?_))
  go_ret
  exact ⟨rfl, c9⟩
set_option maxRecDepth 100000 in
set_option maxHeartbeats 600000 in
theorem wback_bg (kd so se ti va : Int) (p s : ByteArray) (c : Int) (w : World)
    (HP : Hid (∀ w, Calls Try.prog 7 #[.agg #[.int .i64 kd, .int .i64 so, .int .i64 se, .int .i64 ti, .int .i64 va]] w fun e w' => e = .returned (.tuple #[.string p, .int .i64 900]) ∧ Below w.heap.size w w'))
    (HM : Hid (∀ w, Calls Try.prog 12 #[.agg #[.int .i64 kd, .int .i64 so, .int .i64 se, .int .i64 ti, .int .i64 va]] w fun e w' => e = .returned (.bool false) ∧ Below w.heap.size w w'))
    (k1 k2 k3 k4 k5 : Int)
    (GS : Hid (∀ w, Calls Try.prog 9 #[.string s] w fun e w' => e = .returned (.tuple #[.agg #[.int .i64 k1, .int .i64 k2, .int .i64 k3, .int .i64 k4, .int .i64 k5], .int .i64 0]) ∧ Below w.heap.size w w'))
    (PS : Hid (∀ w, Calls Try.prog 7 #[.agg #[.int .i64 k1, .int .i64 k2, .int .i64 k3, .int .i64 k4, .int .i64 k5]] w fun e w' => e = .returned (.tuple #[.string s, .int .i64 0]) ∧ Below w.heap.size w w')) :
    Calls Try.prog 4 #[.agg #[.int .i64 kd, .int .i64 so, .int .i64 se, .int .i64 ti, .int .i64 va], .string s, .int .i64 c] w fun e w' => e = .returned (.bool true) ∧ Below w.heap.size w w' := by
  have HA := Lib.hid (fun w : World => awake_any w)
  go_enter Try.func4, Try.ntmps4
  go_wp2_with fail
  have h0 := Has.made w 23 #[.int .i64 kd, .int .i64 so, .int .i64 se, .int .i64 ti, .int .i64 va]
  have c0 := (Below.refl w.heap.size w).alloc (Nat.le_refl _) (.cells #[.int .i64 kd, .int .i64 so, .int .i64 se, .int .i64 ti, .int .i64 va] 23)
  refine (HA.out _).mono ?_; rintro e w1 ⟨rfl, b1⟩
  have h1 := h0.below b1 h0.lt
  have c1 := c0.trans (b1.mono c0.size)
  clear h0 c0 b1
  go_wp2_with (refine load_op rfl _ rfl _ rfl h1 ?_)
  refine (HP.out _).mono ?_; rintro e w2 ⟨rfl, b2⟩
  have h2 := h1.below b2 h1.lt
  have c2 := c1.trans (b2.mono c1.size)
  clear h1 c1 b2
  go_wp2_with fail
  refine bn4_any (kd := kd) (so := so) (se := se) (ti := ti) (va := va) (p := p) (g := w.heap.size) ⟨rfl, rfl, rfl, h2, HM.out⟩ rfl (fun w3 b3 => ?_)
  have h3 := h2.below b3 h2.lt
  have c3 := c2.trans (b3.mono c2.size)
  clear h2 c2 b3
  simp only [putAll, Act.put, List.setIfInBounds_toArray, List.set_cons_succ, List.set_cons_zero]
  go_wp2_with (go_at_call 11; refine (num_any _ _).mono ?_; rintro e w' ⟨rfl, rfl⟩)
  refine (GS.out _).mono ?_; rintro e w8 ⟨rfl, b8⟩
  have c8 := c3.trans (b8.mono c3.size)
  clear b8 c3
  have c9 := c8.alloc c8.size (.cells #[.int .i64 k1, .int .i64 k2, .int .i64 k3, .int .i64 k4, .int .i64 k5] 23)
  have h9 := Has.made w8 23 #[.int .i64 k1, .int .i64 k2, .int .i64 k3, .int .i64 k4, .int .i64 k5]
  go_wp2_with (first
    | (go_at_call 11; refine (num_any _ _).mono ?_; rintro e w' ⟨rfl, rfl⟩)
    | (refine load_op rfl _ rfl _ rfl h9 ?_))
  refine (PS.out _).mono ?_; rintro e wa ⟨rfl, ba⟩
  have ca := c9.trans (ba.mono c9.size)
  clear ba c9 h9
  go_wp2_with (go_at_call 11; refine (num_any _ _).mono ?_; rintro e w' ⟨rfl, rfl⟩)
  go_ret
  exact ⟨rfl, ca⟩
set_option maxRecDepth 100000 in
set_option maxHeartbeats 600000 in
theorem wback_bb (kd so se ti va : Int) (p s : ByteArray) (c : Int) (w : World)
    (HP : Hid (∀ w, Calls Try.prog 7 #[.agg #[.int .i64 kd, .int .i64 so, .int .i64 se, .int .i64 ti, .int .i64 va]] w fun e w' => e = .returned (.tuple #[.string p, .int .i64 900]) ∧ Below w.heap.size w w'))
    (HM : Hid (∀ w, Calls Try.prog 12 #[.agg #[.int .i64 kd, .int .i64 so, .int .i64 se, .int .i64 ti, .int .i64 va]] w fun e w' => e = .returned (.bool false) ∧ Below w.heap.size w w'))
    (GS : Hid (∀ w, Calls Try.prog 9 #[.string s] w fun e w' => e = .returned (.tuple #[.agg #[.int .i64 0, .int .i64 0, .int .i64 0, .int .i64 0, .int .i64 0], .int .i64 900]) ∧ Below w.heap.size w w')) :
    Calls Try.prog 4 #[.agg #[.int .i64 kd, .int .i64 so, .int .i64 se, .int .i64 ti, .int .i64 va], .string s, .int .i64 c] w fun e w' => e = .returned (.bool true) ∧ Below w.heap.size w w' := by
  have HA := Lib.hid (fun w : World => awake_any w)
  go_enter Try.func4, Try.ntmps4
  go_wp2_with fail
  have h0 := Has.made w 23 #[.int .i64 kd, .int .i64 so, .int .i64 se, .int .i64 ti, .int .i64 va]
  have c0 := (Below.refl w.heap.size w).alloc (Nat.le_refl _) (.cells #[.int .i64 kd, .int .i64 so, .int .i64 se, .int .i64 ti, .int .i64 va] 23)
  refine (HA.out _).mono ?_; rintro e w1 ⟨rfl, b1⟩
  have h1 := h0.below b1 h0.lt
  have c1 := c0.trans (b1.mono c0.size)
  clear h0 c0 b1
  go_wp2_with (refine load_op rfl _ rfl _ rfl h1 ?_)
  refine (HP.out _).mono ?_; rintro e w2 ⟨rfl, b2⟩
  have h2 := h1.below b2 h1.lt
  have c2 := c1.trans (b2.mono c1.size)
  clear h1 c1 b2
  go_wp2_with fail
  refine bn4_any (kd := kd) (so := so) (se := se) (ti := ti) (va := va) (p := p) (g := w.heap.size) ⟨rfl, rfl, rfl, h2, HM.out⟩ rfl (fun w3 b3 => ?_)
  have h3 := h2.below b3 h2.lt
  have c3 := c2.trans (b3.mono c2.size)
  clear h2 c2 b3
  simp only [putAll, Act.put, List.setIfInBounds_toArray, List.set_cons_succ, List.set_cons_zero]
  go_wp2_with (go_at_call 11; refine (num_any _ _).mono ?_; rintro e w' ⟨rfl, rfl⟩)
  refine (GS.out _).mono ?_; rintro e w8 ⟨rfl, b8⟩
  have c8 := c3.trans (b8.mono c3.size)
  clear b8 c3
  have c9 := c8.alloc c8.size (.cells #[.int .i64 0, .int .i64 0, .int .i64 0, .int .i64 0, .int .i64 0] 23)
  have h9 := Has.made w8 23 #[.int .i64 0, .int .i64 0, .int .i64 0, .int .i64 0, .int .i64 0]
  go_wp2_with (first
    | (go_at_call 11; refine (num_any _ _).mono ?_; rintro e w' ⟨rfl, rfl⟩)
    | (refine load_op rfl _ rfl _ rfl h9 ?_))
  go_ret
  exact ⟨rfl, c9⟩

theorem wback_any (kd so se ti va : Int) (s : ByteArray) (c : Int) (w : World) (_ : (Lit.int .i64 kd).wf = true ∧ (Lit.int .i64 so).wf = true ∧ (Lit.int .i64 se).wf = true ∧ (Lit.int .i64 ti).wf = true ∧ (Lit.int .i64 va).wf = true) (hs : s.size ≤ 140737488351232) (_ : (Lit.int .i64 c).wf = true) :
    Calls Try.prog 4 #[.agg #[.int .i64 kd, .int .i64 so, .int .i64 se, .int .i64 ti, .int .i64 va], .string s, .int .i64 c] w fun e w' => e = .returned (.bool true) ∧ Below w.heap.size w w' := by
  have hm : s.size ≤ maxLen := by unfold maxLen; omega
  have hback : (∃ k1 k2 k3 k4 k5, getO s.data.toList = ((k1, k2, k3, k4, k5), 0) ∧ putO k1 k2 k3 k4 k5 = (s, 0)) ∨ getO s.data.toList = ((0, 0, 0, 0, 0), 900) := by
    rcases getO_back s.data.toList with ⟨k1, k2, k3, k4, k5, h1, h2, h3⟩ | h
    · refine .inl ⟨k1, k2, k3, k4, k5, h2, ?_⟩
      rw [putO_yes h1, h3]
    · exact .inr h
  by_cases h : MayO kd so se ti va
  · have hz := encs_size h
    have hp : (⟨(encs (numsO kd so se ti va)).toArray⟩ : ByteArray).size = (encs (numsO kd so se ti va)).length := by
      show (encs (numsO kd so se ti va)).toArray.size = _
      simp
    obtain ⟨k, hk, hka⟩ := place_of c (⟨(encs (numsO kd so se ti va)).toArray⟩ : ByteArray).size (by omega) (by omega)
    have GA := Lib.hid (fun w : World => wget_any ⟨(encs (numsO kd so se ti va)).toArray⟩ (by unfold maxLen; omega) kd so se ti va 0 (by rw [bytes_toList]; exact getO_put h) w)
    have GB := Lib.hid (fun w : World => wget_any ((⟨(encs (numsO kd so se ti va)).toArray⟩ : ByteArray).extract 0 k) (by rw [ByteArray.size_extract]; unfold maxLen; omega) 0 0 0 0 0 900 (by rw [cut_list, bytes_toList]; exact getO_cut h (by omega)) w)
    rcases hback with ⟨k1, k2, k3, k4, k5, hg, hq⟩ | hg
    · exact wback_gg kd so se ti va _ s c w (Lib.hid fun w => wput_any kd so se ti va _ _ (putO_yes h) w) (Lib.hid fun w => may_any kd so se ti va true (mayB_yes h) w) (by omega) k hk hka GA GB k1 k2 k3 k4 k5
        (Lib.hid fun w => wget_any s hm k1 k2 k3 k4 k5 0 hg w) (Lib.hid fun w => wput_any k1 k2 k3 k4 k5 _ _ hq w)
    · exact wback_gb kd so se ti va _ s c w (Lib.hid fun w => wput_any kd so se ti va _ _ (putO_yes h) w) (Lib.hid fun w => may_any kd so se ti va true (mayB_yes h) w) (by omega) k hk hka GA GB
        (Lib.hid fun w => wget_any s hm 0 0 0 0 0 900 hg w)
  · rcases hback with ⟨k1, k2, k3, k4, k5, hg, hq⟩ | hg
    · exact wback_bg kd so se ti va _ s c w (Lib.hid fun w => wput_any kd so se ti va _ _ (putO_no h) w) (Lib.hid fun w => may_any kd so se ti va false (mayB_no h) w) k1 k2 k3 k4 k5
        (Lib.hid fun w => wget_any s hm k1 k2 k3 k4 k5 0 hg w) (Lib.hid fun w => wput_any k1 k2 k3 k4 k5 _ _ hq w)
    · exact wback_bb kd so se ti va _ s c w (Lib.hid fun w => wput_any kd so se ti va _ _ (putO_no h) w) (Lib.hid fun w => may_any kd so se ti va false (mayB_no h) w)
        (Lib.hid fun w => wget_any s hm 0 0 0 0 0 900 hg w)

end Go.Proofs.Ytadejalbmpfdmaa

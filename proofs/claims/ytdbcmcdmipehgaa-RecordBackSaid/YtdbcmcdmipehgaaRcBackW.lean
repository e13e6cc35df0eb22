/-
  Walk: RecordBack: there and back (written by gen/rcback.py).
-/
import Derived.Test.YtdbcmcdmipehgaaRcRg8
namespace Go.Proofs.Ytdbcmcdmipehgaa
open Go.RowKit

theorem place_of (a : Int) (n : Nat) (h0 : 0 < n) (hn : n ≤ 140737488355328) : ∃ k : Nat, k < n ∧ wrap64 ((IntKind.u64.wrap a).tmod (n : Int)) = k := by
  have h1 : 0 ≤ IntKind.u64.wrap a := by rw [IntKind.wrap_u64]; omega
  have h2 := Int.tmod_nonneg (n : Int) h1
  have h3 := Int.tmod_lt_of_pos (IntKind.u64.wrap a) (show (0 : Int) < n by omega)
  obtain ⟨k, hk⟩ := Int.eq_ofNat_of_zero_le h2
  rw [hk] at h3 ⊢
  exact ⟨k, by omega, by unfold wrap64; omega⟩
theorem cut_list (S : ByteArray) (n : Nat) : (S.extract 0 n).data.toList = S.data.toList.take n := by
  rw [ByteArray.data_extract, Array.toList_extract]
  simp [List.extract]
/-- A record that came in, in its box. -/
structure BxS (w0 : World) (r : Rc) (A : Option Addr) (n c : Nat) (w : World) : Prop where
  old : Below w0.heap.size w0 w
  box : Has w w0.heap.size 30 (recC r A n c)
  i : Ints w A n r.hs
section
variable {w0 w w' : World} {r : Rc} {A : Option Addr} {n c : Nat}
theorem BxS.made (w0 : World) (c : Nat) (h : Ints w0 A n r.hs) : BxS w0 r A n c (w0.alloc (.cells (recC r A n c) 30)) :=
  have hb := (Below.refl w0.heap.size w0).alloc (Nat.le_refl _) (.cells (recC r A n c) 30)
  ⟨hb, Has.made _ _ _, h.below hb⟩
theorem BxS.below (h : BxS w0 r A n c w) (hb : Below w.heap.size w w') : BxS w0 r A n c w' := ⟨h.old.trans (hb.mono h.old.size), h.box.below hb h.box.lt, h.i.below hb⟩
end
theorem bytes_toList (l : List UInt8) : (⟨l.toArray⟩ : ByteArray).data.toList = l := by simp
theorem encX_bits (n m : Nat) {x : Int} (h1 : -(m : Int) ≤ x) (h2 : x ≤ (m : Int)) (h : 2 * m < 2 ^ (7 * (n + 1))) : (encX x).length ≤ n + 1 := by
  unfold encX
  refine encL_bits n _ (Nat.lt_of_le_of_lt ?_ h)
  by_cases h0 : x < 0
  · rw [foldI_neg h0]; omega
  · rw [foldI_pos h0]; omega
/-- No record's bytes are none, and they fit into a frame. -/
theorem encR_size {r : Rc} (hm : MayR r) : 0 < (encs (numsR r)).length ∧ (encs (numsR r)).length ≤ 60 := by
  have hin := numsR_in hm
  refine ⟨?_, ?_⟩
  · have hne : ∃ x l, numsR r = x :: l := by
      unfold numsR
      split
      · exact ⟨_, _, rfl⟩
      · split
        · exact ⟨_, _, rfl⟩
        · split
          · exact ⟨_, _, rfl⟩
          · exact ⟨_, _, rfl⟩
    obtain ⟨x, l, e⟩ := hne
    rw [e] at hin ⊢
    rw [encs_cons, List.length_append]
    have := (encX_len (hin x (by simp)).1 (hin x (by simp)).2).1
    omega
  · obtain ⟨kd, qu, sr, st, en, va, ov, hs, se, ti, sq, bd⟩ := r
    have top : ∀ l : List Int, (∀ x ∈ l, 0 ≤ x ∧ x ≤ 8192) → (encs l).length ≤ 3 * l.length := by
      intro l
      induction l with
      | nil => intro _; simp [encs]
      | cons x l ih =>
        intro h
        have h1 := ih (fun y hy => h y (by simp [hy]))
        have h2 := h x (by simp)
        have h3 := encX_bits 2 8192 (x := x) (by omega) (by omega) (by decide)
        rw [encs_cons, List.length_append, List.length_cons]
        omega
    have hk := hm.kinds
    simp only at hk
    unfold MayR ResM OutM SamM at hm
    simp only at hm
    by_cases k0 : kd = 0
    · subst k0
      obtain ⟨_, ⟨hq, hs1, hst, hen, _, _, hl, hh, hv⟩, _⟩ := hm.resolve_right (by omega)
      have e : numsR ⟨0, qu, sr, st, en, va, ov, hs, se, ti, sq, bd⟩ = 0 :: qu :: sr :: st :: en :: va :: bitI ov :: (hs.length : Int) :: hs := rfl
      rw [e]
      have t := top hs hh
      have l0 := encX_bits 0 7 (x := 0) (by omega) (by omega) (by decide)
      have l1 := encX_bits 0 7 (x := qu) (by omega) (by omega) (by decide)
      have l2 := encX_bits 2 1048575 (x := sr) (by omega) (by omega) (by decide)
      have l3 := encX_bits 6 4398046511104 (x := st) (by omega) (by omega) (by decide)
      have l4 := encX_bits 6 4398046511104 (x := en) (by omega) (by omega) (by decide)
      have l5 := encX_bits 8 72057594037927940 (x := va) (by omega) (by omega) (by decide)
      have hb : 0 ≤ bitI ov ∧ bitI ov ≤ 1 := by unfold bitI; split <;> omega
      have l6 := encX_bits 0 7 (x := bitI ov) (by omega) (by omega) (by decide)
      have l7 := encX_bits 0 9 (x := (hs.length : Int)) (by omega) (by omega) (by decide)
      simp only [encs_cons, List.length_append]
      omega
    · have hx : ∃ l : List Int, numsR ⟨kd, qu, sr, st, en, va, ov, hs, se, ti, sq, bd⟩ = l ∧ l.length ≤ 4 := by
        refine ⟨_, rfl, ?_⟩
        unfold numsR
        rw [if_neg k0]
        split
        · simp
        · split <;> simp
      obtain ⟨l, e, hl⟩ := hx
      rw [e] at hin ⊢
      have := encs_len hin
      omega

set_option maxRecDepth 100000 in
set_option maxHeartbeats 1000000 in
theorem rback_gg (r : Rc) (A : Option Addr) (n c : Nat) (p s : ByteArray) (cu : Int) (w : World)
    (HP : Hid (∀ w, Ints w A n r.hs → Calls Try.prog 6 #[.agg (recC r A n c)] w fun e w' => e = .returned (.tuple #[.string p, .int .i64 0]) ∧ Below w.heap.size w w'))
    (HM : Hid (mayR r = true))
    (hI : Ints w A n r.hs)
    (HNM : Hid (n ≤ maxLen))
    (n6 : 0 < p.size ∧ p.size ≤ 60)
    (k : Nat)
    (hk : k < p.size)
    (hka : wrap64 ((IntKind.u64.wrap cu).tmod (p.size : Int)) = k)
    (GA : Hid (∀ w, Calls Try.prog 8 #[.string p] w fun e w' => ∃ A c, e = .returned (.tuple #[.agg (recC r A n c), .int .i64 0]) ∧ OwnI w' w.heap.size (.slice A n c) r.hs ∧ Below w.heap.size w w'))
    (GB : Hid (∀ w, Calls Try.prog 8 #[.string (p.extract 0 k)] w fun e w' => ∃ A c, e = .returned (.tuple #[.agg (recC zeroR A 0 c), .int .i64 1000]) ∧ OwnI w' w.heap.size (.slice A 0 c) zeroR.hs ∧ Below w.heap.size w w'))
    (q : Rc)
    (m : Nat)
    (GS : Hid (∀ w, Calls Try.prog 8 #[.string s] w fun e w' => ∃ A c, e = .returned (.tuple #[.agg (recC q A m c), .int .i64 0]) ∧ OwnI w' w.heap.size (.slice A m c) q.hs ∧ Below w.heap.size w w'))
    (PS : Hid (∀ w A c, Ints w A m q.hs → Calls Try.prog 6 #[.agg (recC q A m c)] w fun e w' => e = .returned (.tuple #[.string s, .int .i64 0]) ∧ Below w.heap.size w w')) :
    Calls Try.prog 4 #[.agg (recC r A n c), .string s, .int .i64 cu] w fun e w' => e = .returned (.bool true) ∧ Below w.heap.size w w' := by
  have HA := Lib.hid (fun w : World => awake_any w)
  have hn0 : 0 < p.size := n6.1
  have HN := Lib.hid n6
  have hkp : (k : Int) ≤ (p.size : Int) := by omega
  have hp0 : ¬ (p.size : Int) = 0 := by omega
  have wn : IntKind.u64.wrap (p.size : Int) = (p.size : Int) := by rw [IntKind.wrap_u64]; omega
  clear n6 hk
  have S0 := BxS.made w c hI
  clear hI
  go_enter Try.func4, Try.ntmps4
  go_wp2_with fail
  refine (HA.out _).mono ?_; rintro e w1 ⟨rfl, b⟩
  have S1 := S0.below b
  clear S0 b
  go_wp2_with (refine load_rec rfl _ rfl _ rfl S1.box ?_)
  refine (HP.out _ S1.i).mono ?_; rintro e w2 ⟨rfl, b⟩
  have S2 := S1.below b
  clear S1 b
  go_wp2_with fail
  refine rb4_any (r := r) (A := A) (n := n) (c := c) (g := w.heap.size) (p := p) ⟨rfl, rfl, rfl, rfl, S2.box, S2.i, HM.out, HN.out⟩ rfl (fun w3 b3 => ?_)
  have S3 := S2.below b3
  clear S2 b3
  simp only [putAll, Act.put, List.setIfInBounds_toArray, List.set_cons_succ, List.set_cons_zero]
  go_wp2_with (go_at_call 10; refine (num_any _ _).mono ?_; rintro e w' ⟨rfl, rfl⟩)
  refine (GA.out _).mono ?_; rintro e w4 ⟨A1, c1, rfl, o4, b⟩
  have S4 := S3.below b
  clear S3 b
  go_wp2_with (refine store_recN (r := r) (A := A1) (n := n) (c := c1) rfl _ _ rfl rfl rfl rfl ?_; intro w5 b5 z5 h5)
  have S5 := S4.below b5
  have o5 := o4.below b5
  clear S4 o4 b5 z5
  refine (GB.out _).mono ?_; rintro e w6 ⟨A2, c2, rfl, _, b⟩
  have S6 := S5.below b
  have o6 := o5.below b
  have h6 := h5.below b h5.lt
  clear S5 o5 h5 b
  go_wp2_with (first
    | (refine store_recN (r := zeroR) (A := A2) (n := 0) (c := c2) rfl _ _ rfl rfl rfl rfl ?_; intro w7 b7 z7 _; have S7 := S6.below b7; have o7 := o6.below b7; have h7 := h6.below b7 h6.lt; clear S6 o6 h6 b7 z7)
    | (go_at_call 10; refine (num_any _ _).mono ?_; rintro e w' ⟨rfl, rfl⟩)
    | (refine load_rec rfl _ rfl _ rfl h7 ?_)
    | (refine load_rec rfl _ rfl _ rfl S7.box ?_))
  refine (samerec_true r A1 A n c1 c _ o7.ints S7.i HNM.out).mono ?_; rintro e w8 ⟨rfl, b⟩
  have S8 := S7.below b
  clear S7 o7 h7 b
  go_wp2_with (go_at_call 10; refine (num_any _ _).mono ?_; rintro e w' ⟨rfl, rfl⟩)
  refine (GS.out _).mono ?_; rintro e wa ⟨A3, c3, rfl, oa, b⟩
  have ca := S8.old.trans (b.mono S8.old.size)
  clear b S8
  go_wp2_with (first
    | (refine store_recN (r := q) (A := A3) (n := m) (c := c3) rfl _ _ rfl rfl rfl rfl ?_; intro wb bb zb hb; have cb := ca.trans (bb.mono ca.size); have ob := oa.below bb; clear ca oa bb zb)
    | (go_at_call 10; refine (num_any _ _).mono ?_; rintro e w' ⟨rfl, rfl⟩)
    | (refine load_rec rfl _ rfl _ rfl hb ?_))
  refine (PS.out _ _ _ ob.ints).mono ?_; rintro e wd ⟨rfl, b⟩
  have cd := cb.trans (b.mono cb.size)
  clear b cb hb ob
  go_wp2_with (go_at_call 10; refine (num_any _ _).mono ?_; rintro e w' ⟨rfl, rfl⟩)
  go_ret
  exact ⟨rfl, cd⟩

set_option maxRecDepth 100000 in
set_option maxHeartbeats 1000000 in
theorem rback_gb (r : Rc) (A : Option Addr) (n c : Nat) (p s : ByteArray) (cu : Int) (w : World)
    (HP : Hid (∀ w, Ints w A n r.hs → Calls Try.prog 6 #[.agg (recC r A n c)] w fun e w' => e = .returned (.tuple #[.string p, .int .i64 0]) ∧ Below w.heap.size w w'))
    (HM : Hid (mayR r = true))
    (hI : Ints w A n r.hs)
    (HNM : Hid (n ≤ maxLen))
    (n6 : 0 < p.size ∧ p.size ≤ 60)
    (k : Nat)
    (hk : k < p.size)
    (hka : wrap64 ((IntKind.u64.wrap cu).tmod (p.size : Int)) = k)
    (GA : Hid (∀ w, Calls Try.prog 8 #[.string p] w fun e w' => ∃ A c, e = .returned (.tuple #[.agg (recC r A n c), .int .i64 0]) ∧ OwnI w' w.heap.size (.slice A n c) r.hs ∧ Below w.heap.size w w'))
    (GB : Hid (∀ w, Calls Try.prog 8 #[.string (p.extract 0 k)] w fun e w' => ∃ A c, e = .returned (.tuple #[.agg (recC zeroR A 0 c), .int .i64 1000]) ∧ OwnI w' w.heap.size (.slice A 0 c) zeroR.hs ∧ Below w.heap.size w w'))
    (GS : Hid (∀ w, Calls Try.prog 8 #[.string s] w fun e w' => ∃ A c, e = .returned (.tuple #[.agg (recC zeroR A 0 c), .int .i64 1000]) ∧ OwnI w' w.heap.size (.slice A 0 c) zeroR.hs ∧ Below w.heap.size w w')) :
    Calls Try.prog 4 #[.agg (recC r A n c), .string s, .int .i64 cu] w fun e w' => e = .returned (.bool true) ∧ Below w.heap.size w w' := by
  have HA := Lib.hid (fun w : World => awake_any w)
  have hn0 : 0 < p.size := n6.1
  have HN := Lib.hid n6
  have hkp : (k : Int) ≤ (p.size : Int) := by omega
  have hp0 : ¬ (p.size : Int) = 0 := by omega
  have wn : IntKind.u64.wrap (p.size : Int) = (p.size : Int) := by rw [IntKind.wrap_u64]; omega
  clear n6 hk
  have S0 := BxS.made w c hI
  clear hI
  go_enter Try.func4, Try.ntmps4
  go_wp2_with fail
  refine (HA.out _).mono ?_; rintro e w1 ⟨rfl, b⟩
  have S1 := S0.below b
  clear S0 b
  go_wp2_with (refine load_rec rfl _ rfl _ rfl S1.box ?_)
  refine (HP.out _ S1.i).mono ?_; rintro e w2 ⟨rfl, b⟩
  have S2 := S1.below b
  clear S1 b
  go_wp2_with fail
  refine rb4_any (r := r) (A := A) (n := n) (c := c) (g := w.heap.size) (p := p) ⟨rfl, rfl, rfl, rfl, S2.box, S2.i, HM.out, HN.out⟩ rfl (fun w3 b3 => ?_)
  have S3 := S2.below b3
  clear S2 b3
  simp only [putAll, Act.put, List.setIfInBounds_toArray, List.set_cons_succ, List.set_cons_zero]
  go_wp2_with (go_at_call 10; refine (num_any _ _).mono ?_; rintro e w' ⟨rfl, rfl⟩)
  refine (GA.out _).mono ?_; rintro e w4 ⟨A1, c1, rfl, o4, b⟩
  have S4 := S3.below b
  clear S3 b
  go_wp2_with (refine store_recN (r := r) (A := A1) (n := n) (c := c1) rfl _ _ rfl rfl rfl rfl ?_; intro w5 b5 z5 h5)
  have S5 := S4.below b5
  have o5 := o4.below b5
  clear S4 o4 b5 z5
  refine (GB.out _).mono ?_; rintro e w6 ⟨A2, c2, rfl, _, b⟩
  have S6 := S5.below b
  have o6 := o5.below b
  have h6 := h5.below b h5.lt
  clear S5 o5 h5 b
  go_wp2_with (first
    | (refine store_recN (r := zeroR) (A := A2) (n := 0) (c := c2) rfl _ _ rfl rfl rfl rfl ?_; intro w7 b7 z7 _; have S7 := S6.below b7; have o7 := o6.below b7; have h7 := h6.below b7 h6.lt; clear S6 o6 h6 b7 z7)
    | (go_at_call 10; refine (num_any _ _).mono ?_; rintro e w' ⟨rfl, rfl⟩)
    | (refine load_rec rfl _ rfl _ rfl h7 ?_)
    | (refine load_rec rfl _ rfl _ rfl S7.box ?_))
  refine (samerec_true r A1 A n c1 c _ o7.ints S7.i HNM.out).mono ?_; rintro e w8 ⟨rfl, b⟩
  have S8 := S7.below b
  clear S7 o7 h7 b
  go_wp2_with (go_at_call 10; refine (num_any _ _).mono ?_; rintro e w' ⟨rfl, rfl⟩)
  refine (GS.out _).mono ?_; rintro e wa ⟨A3, c3, rfl, oa, b⟩
  have ca := S8.old.trans (b.mono S8.old.size)
  clear b S8
  go_wp2_with (first
    | (refine store_recN (r := zeroR) (A := A3) (n := 0) (c := c3) rfl _ _ rfl rfl rfl rfl ?_; intro wb bb zb hb; have cb := ca.trans (bb.mono ca.size); have ob := oa.below bb; clear ca oa bb zb)
    | (go_at_call 10; refine (num_any _ _).mono ?_; rintro e w' ⟨rfl, rfl⟩)
    | (refine load_rec rfl _ rfl _ rfl hb ?_))
  refine (samerec_true zeroR A3 none 0 c3 0 _ ob.ints Ints.nil (Nat.zero_le _)).mono ?_; rintro e wd ⟨rfl, b⟩
  have cd := cb.trans (b.mono cb.size)
  clear b cb hb ob
  go_wp2_with fail
  go_ret
  exact ⟨rfl, cd⟩

set_option maxRecDepth 100000 in
set_option maxHeartbeats 1000000 in
theorem rback_bg (r : Rc) (A : Option Addr) (n c : Nat) (p s : ByteArray) (cu : Int) (w : World)
    (HP : Hid (∀ w, Ints w A n r.hs → Calls Try.prog 6 #[.agg (recC r A n c)] w fun e w' => e = .returned (.tuple #[.string p, .int .i64 1000]) ∧ Below w.heap.size w w'))
    (HM : Hid (mayR r = false))
    (hI : Ints w A n r.hs)
    (_HNM : Hid (n ≤ maxLen))
    (q : Rc)
    (m : Nat)
    (GS : Hid (∀ w, Calls Try.prog 8 #[.string s] w fun e w' => ∃ A c, e = .returned (.tuple #[.agg (recC q A m c), .int .i64 0]) ∧ OwnI w' w.heap.size (.slice A m c) q.hs ∧ Below w.heap.size w w'))
    (PS : Hid (∀ w A c, Ints w A m q.hs → Calls Try.prog 6 #[.agg (recC q A m c)] w fun e w' => e = .returned (.tuple #[.string s, .int .i64 0]) ∧ Below w.heap.size w w')) :
    Calls Try.prog 4 #[.agg (recC r A n c), .string s, .int .i64 cu] w fun e w' => e = .returned (.bool true) ∧ Below w.heap.size w w' := by
  have HA := Lib.hid (fun w : World => awake_any w)
  have S0 := BxS.made w c hI
  clear hI
  go_enter Try.func4, Try.ntmps4
  go_wp2_with fail
  refine (HA.out _).mono ?_; rintro e w1 ⟨rfl, b⟩
  have S1 := S0.below b
  clear S0 b
  go_wp2_with (refine load_rec rfl _ rfl _ rfl S1.box ?_)
  refine (HP.out _ S1.i).mono ?_; rintro e w2 ⟨rfl, b⟩
  have S2 := S1.below b
  clear S1 b
  go_wp2_with fail
  refine rn4_any (r := r) (A := A) (n := n) (c := c) (g := w.heap.size) (p := p) ⟨rfl, rfl, rfl, S2.box, S2.i, HM.out⟩ rfl (fun w3 b3 => ?_)
  have S3 := S2.below b3
  clear S2 b3
  simp only [putAll, Act.put, List.setIfInBounds_toArray, List.set_cons_succ, List.set_cons_zero]
  go_wp2_with (go_at_call 10; refine (num_any _ _).mono ?_; rintro e w' ⟨rfl, rfl⟩)
  refine (GS.out _).mono ?_; rintro e wa ⟨A3, c3, rfl, oa, b⟩
  have ca := S3.old.trans (b.mono S3.old.size)
  clear b S3
  go_wp2_with (first
    | (refine store_recN (r := q) (A := A3) (n := m) (c := c3) rfl _ _ rfl rfl rfl rfl ?_; intro wb bb zb hb; have cb := ca.trans (bb.mono ca.size); have ob := oa.below bb; clear ca oa bb zb)
    | (go_at_call 10; refine (num_any _ _).mono ?_; rintro e w' ⟨rfl, rfl⟩)
    | (refine load_rec rfl _ rfl _ rfl hb ?_))
  refine (PS.out _ _ _ ob.ints).mono ?_; rintro e wd ⟨rfl, b⟩
  have cd := cb.trans (b.mono cb.size)
  clear b cb hb ob
  go_wp2_with (go_at_call 10; refine (num_any _ _).mono ?_; rintro e w' ⟨rfl, rfl⟩)
  go_ret
  exact ⟨rfl, cd⟩

set_option maxRecDepth 100000 in
set_option maxHeartbeats 1000000 in
theorem rback_bb (r : Rc) (A : Option Addr) (n c : Nat) (p s : ByteArray) (cu : Int) (w : World)
    (HP : Hid (∀ w, Ints w A n r.hs → Calls Try.prog 6 #[.agg (recC r A n c)] w fun e w' => e = .returned (.tuple #[.string p, .int .i64 1000]) ∧ Below w.heap.size w w'))
    (HM : Hid (mayR r = false))
    (hI : Ints w A n r.hs)
    (_HNM : Hid (n ≤ maxLen))
    (GS : Hid (∀ w, Calls Try.prog 8 #[.string s] w fun e w' => ∃ A c, e = .returned (.tuple #[.agg (recC zeroR A 0 c), .int .i64 1000]) ∧ OwnI w' w.heap.size (.slice A 0 c) zeroR.hs ∧ Below w.heap.size w w')) :
    Calls Try.prog 4 #[.agg (recC r A n c), .string s, .int .i64 cu] w fun e w' => e = .returned (.bool true) ∧ Below w.heap.size w w' := by
  have HA := Lib.hid (fun w : World => awake_any w)
  have S0 := BxS.made w c hI
  clear hI
  go_enter Try.func4, Try.ntmps4
  go_wp2_with fail
  refine (HA.out _).mono ?_; rintro e w1 ⟨rfl, b⟩
  have S1 := S0.below b
  clear S0 b
  go_wp2_with (refine load_rec rfl _ rfl _ rfl S1.box ?_)
  refine (HP.out _ S1.i).mono ?_; rintro e w2 ⟨rfl, b⟩
  have S2 := S1.below b
  clear S1 b
  go_wp2_with fail
  refine rn4_any (r := r) (A := A) (n := n) (c := c) (g := w.heap.size) (p := p) ⟨rfl, rfl, rfl, S2.box, S2.i, HM.out⟩ rfl (fun w3 b3 => ?_)
  have S3 := S2.below b3
  clear S2 b3
  simp only [putAll, Act.put, List.setIfInBounds_toArray, List.set_cons_succ, List.set_cons_zero]
  go_wp2_with (go_at_call 10; refine (num_any _ _).mono ?_; rintro e w' ⟨rfl, rfl⟩)
  refine (GS.out _).mono ?_; rintro e wa ⟨A3, c3, rfl, oa, b⟩
  have ca := S3.old.trans (b.mono S3.old.size)
  clear b S3
  go_wp2_with (first
    | (refine store_recN (r := zeroR) (A := A3) (n := 0) (c := c3) rfl _ _ rfl rfl rfl rfl ?_; intro wb bb zb hb; have cb := ca.trans (bb.mono ca.size); have ob := oa.below bb; clear ca oa bb zb)
    | (go_at_call 10; refine (num_any _ _).mono ?_; rintro e w' ⟨rfl, rfl⟩)
    | (refine load_rec rfl _ rfl _ rfl hb ?_))
  refine (samerec_true zeroR A3 none 0 c3 0 _ ob.ints Ints.nil (Nat.zero_le _)).mono ?_; rintro e wd ⟨rfl, b⟩
  have cd := cb.trans (b.mono cb.size)
  clear b cb hb ob
  go_wp2_with fail
  go_ret
  exact ⟨rfl, cd⟩

theorem rback_any (r : Rc) (A : Option Addr) (n c : Nat) (s : ByteArray) (cu : Int) (w : World) (hI : Ints w A n r.hs) (hn : n ≤ maxLen) (hs : s.size ≤ 140737488351232) (_ : (Lit.int .i64 cu).wf = true) :
    Calls Try.prog 4 #[.agg (recC r A n c), .string s, .int .i64 cu] w fun e w' => e = .returned (.bool true) ∧ Below w.heap.size w w' := by
  have hm : s.size ≤ maxLen := by unfold maxLen; omega
  have hback : (∃ q, getR s.data.toList = (q, 0) ∧ putR q = (s, 0)) ∨ getR s.data.toList = (zeroR, 1000) := by
    rcases getR_back s.data.toList with ⟨q, h1, h2, h3⟩ | h
    · refine .inl ⟨q, h2, ?_⟩
      rw [putR, if_pos (mayR_yes h1), h3]
    · exact .inr h
  have hl : r.hs.length = n := hI.1
  by_cases h : MayR r
  · have hz := encR_size h
    have hp : (⟨(encs (numsR r)).toArray⟩ : ByteArray).size = (encs (numsR r)).length := by
      show (encs (numsR r)).toArray.size = _
      simp
    have hput : putR r = (⟨(encs (numsR r)).toArray⟩, 0) := by rw [putR, if_pos (mayR_yes h)]
    obtain ⟨k, hk, hka⟩ := place_of cu (⟨(encs (numsR r)).toArray⟩ : ByteArray).size (by omega) (by omega)
    have GA : Hid (∀ w, Calls Try.prog 8 #[.string ⟨(encs (numsR r)).toArray⟩] w fun e w' => ∃ A c, e = .returned (.tuple #[.agg (recC r A n c), .int .i64 0]) ∧ OwnI w' w.heap.size (.slice A n c) r.hs ∧ Below w.heap.size w w') := Lib.hid (fun w : World => by
      have := get_own ⟨(encs (numsR r)).toArray⟩ r 0 (by rw [bytes_toList]; exact getR_put h) (by unfold maxLen; omega) w
      rw [hl] at this
      exact this)
    have GB : Hid (∀ w, Calls Try.prog 8 #[.string ((⟨(encs (numsR r)).toArray⟩ : ByteArray).extract 0 k)] w fun e w' => ∃ A c, e = .returned (.tuple #[.agg (recC zeroR A 0 c), .int .i64 1000]) ∧ OwnI w' w.heap.size (.slice A 0 c) zeroR.hs ∧ Below w.heap.size w w') := Lib.hid (fun w : World => get_own ((⟨(encs (numsR r)).toArray⟩ : ByteArray).extract 0 k) zeroR 1000 (by rw [cut_list, bytes_toList]; exact getR_cut h (by omega)) (by rw [ByteArray.size_extract]; unfold maxLen; omega) w)
    rcases hback with ⟨q, hg, hq⟩ | hg
    · exact rback_gg r A n c _ s cu w (Lib.hid fun w hi => put_rec r A n c _ _ hput w hi) (Lib.hid (mayR_yes h)) hI (Lib.hid hn) (by omega) k hk hka GA GB q q.hs.length
        (Lib.hid fun w => get_own s q 0 hg hm w) (Lib.hid fun w A c hi => put_rec q A _ c _ _ hq w hi)
    · exact rback_gb r A n c _ s cu w (Lib.hid fun w hi => put_rec r A n c _ _ hput w hi) (Lib.hid (mayR_yes h)) hI (Lib.hid hn) (by omega) k hk hka GA GB
        (Lib.hid fun w => get_own s zeroR 1000 hg hm w)
  · have hput : putR r = (⟨#[]⟩, 1000) := by rw [putR, if_neg (by simp [mayR_no h])]
    rcases hback with ⟨q, hg, hq⟩ | hg
    · exact rback_bg r A n c _ s cu w (Lib.hid fun w hi => put_rec r A n c _ _ hput w hi) (Lib.hid (mayR_no h)) hI (Lib.hid hn) q q.hs.length
        (Lib.hid fun w => get_own s q 0 hg hm w) (Lib.hid fun w A c hi => put_rec q A _ c _ _ hq w hi)
    · exact rback_bb r A n c _ s cu w (Lib.hid fun w hi => put_rec r A n c _ _ hput w hi) (Lib.hid (mayR_no h)) hI (Lib.hid hn)
        (Lib.hid fun w => get_own s zeroR 1000 hg hm w)

end Go.Proofs.Ytdbcmcdmipehgaa

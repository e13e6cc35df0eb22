/-
  A sum of 16 bits over bytes; a frame's bytes, what is told of bytes: plain facts. No program here.
  A frame is told as its body; a beginning of it is cut; with one byte another it is none: plain facts. No program here.
-/
import Derived.WalkKit
import Derived.Lib.Hide
import Derived.Laws.BitsAllLaws
namespace Go.Proofs.Ytoechlmahckchaa
open Go.RowKit

/-- Twice x, in 16 bits, with what the highest bit brings in. -/
def nxt (x : Nat) : Nat := (x * 2 % 65536) ^^^ (x / 32768 * 4129)
/-- That k times. -/
def nxN : Nat → Nat → Nat
  | 0, x => x
  | k + 1, x => nxt (nxN k x)
/-- A further byte. -/
def sumB (x : Nat) (b : UInt8) : Nat := nxN 8 (x ^^^ (b.toNat * 256))
def sumF (x : Nat) (l : List UInt8) : Nat := l.foldl sumB x
/-- The sum of bytes. -/
def sumL (l : List UInt8) : Nat := sumF 65535 l

theorem nxt_lt {x : Nat} (h : x < 65536) : nxt x < 65536 := by
  have h1 : x / 32768 * 4129 < 2 ^ 16 := by omega
  exact Nat.xor_lt_two_pow (n := 16) (by omega) h1
theorem nxN_lt {x : Nat} (h : x < 65536) : ∀ k, nxN k x < 65536
  | 0 => h
  | k + 1 => nxt_lt (nxN_lt h k)
theorem with_lt {x : Nat} (h : x < 65536) (b : UInt8) : x ^^^ (b.toNat * 256) < 65536 := by
  have := b.toNat_lt
  exact Nat.xor_lt_two_pow (n := 16) (by omega) (by omega)
theorem sumB_lt {x : Nat} (h : x < 65536) (b : UInt8) : sumB x b < 65536 := nxN_lt (with_lt h b) 8
theorem sumF_lt : ∀ (l : List UInt8) {x : Nat}, x < 65536 → sumF x l < 65536
  | [], _, h => h
  | b :: l, _, h => sumF_lt l (sumB_lt h b)
theorem sumL_lt (l : List UInt8) : sumL l < 65536 := sumF_lt l (by decide)
theorem sumF_cons (x : Nat) (b : UInt8) (l : List UInt8) : sumF x (b :: l) = sumF (sumB x b) l := rfl
theorem sumF_append (x : Nat) (l r : List UInt8) : sumF x (l ++ r) = sumF (sumF x l) r := List.foldl_append

theorem xor_cancel {a b c : Nat} (h : a ^^^ c = b ^^^ c) : a = b := by
  have h2 := congrArg (· ^^^ c) h
  simpa [Nat.xor_assoc] using h2
theorem xor_cancel' {a b c : Nat} (h : c ^^^ a = c ^^^ b) : a = b := by
  rw [Nat.xor_comm c a, Nat.xor_comm c b] at h
  exact xor_cancel h
theorem nxt_odd {x : Nat} (h : x < 65536) : nxt x % 2 = x / 32768 := by
  have e : nxt x % 2 = (x * 2 % 65536 % 2) ^^^ (x / 32768 * 4129 % 2) := Nat.xor_mod_two_pow (n := 1)
  have e1 : x * 2 % 65536 % 2 = 0 := by omega
  have e2 : x / 32768 * 4129 % 2 = x / 32768 := by omega
  rw [e, e1, e2, Nat.zero_xor]
theorem nxt_inj {x y : Nat} (hx : x < 65536) (hy : y < 65536) (h : nxt x = nxt y) : x = y := by
  have e : x / 32768 = y / 32768 := by rw [← nxt_odd hx, ← nxt_odd hy, h]
  have h2 : (x * 2 % 65536) ^^^ (x / 32768 * 4129) = (y * 2 % 65536) ^^^ (y / 32768 * 4129) := h
  rw [e] at h2
  have h3 := xor_cancel h2
  omega
theorem nxN_inj {x y : Nat} (hx : x < 65536) (hy : y < 65536) : ∀ k, nxN k x = nxN k y → x = y
  | 0, h => h
  | k + 1, h => nxN_inj hx hy k (nxt_inj (nxN_lt hx k) (nxN_lt hy k) h)
theorem sumB_inj {x y : Nat} (hx : x < 65536) (hy : y < 65536) (b : UInt8) (h : sumB x b = sumB y b) : x = y :=
  xor_cancel (nxN_inj (with_lt hx b) (with_lt hy b) 8 h)
theorem sumB_ne {x : Nat} (hx : x < 65536) {b c : UInt8} (h : sumB x b = sumB x c) : b = c := by
  have h2 := xor_cancel' (nxN_inj (with_lt hx b) (with_lt hx c) 8 h)
  exact UInt8.toNat_inj.1 (by omega)
theorem sumF_inj : ∀ (l : List UInt8) {x y : Nat}, x < 65536 → y < 65536 → sumF x l = sumF y l → x = y
  | [], _, _, _, _, h => h
  | b :: l, _, _, hx, hy, h => sumB_inj hx hy b (sumF_inj l (sumB_lt hx b) (sumB_lt hy b) h)
/-- One byte always turns the sum. -/
theorem sumL_turn (p q : List UInt8) {b c : UInt8} (h : b ≠ c) : sumL (p ++ b :: q) ≠ sumL (p ++ c :: q) := by
  intro e
  unfold sumL at e
  rw [sumF_append, sumF_append, sumF_cons, sumF_cons] at e
  have hp := sumF_lt p (x := 65535) (by decide)
  exact h (sumB_ne hp (sumF_inj q (sumB_lt hp b) (sumB_lt hp c) e))

theorem set_parts (l : List UInt8) (k : Nat) (hk : k < l.length) (c : UInt8) : l = l.take k ++ l[k] :: l.drop (k + 1) ∧ l.set k c = l.take k ++ c :: l.drop (k + 1) := by
  refine ⟨?_, List.set_eq_take_append_cons_drop .. ▸ by rw [if_pos hk]⟩
  rw [← List.drop_eq_getElem_cons hk, List.take_append_drop]
theorem sumL_set {l : List UInt8} {k : Nat} (hk : k < l.length) {c : UInt8} (h : l[k] ≠ c) : sumL l ≠ sumL (l.set k c) := by
  have h2 := set_parts l k hk c
  rw [h2.2]
  intro e
  rw [h2.1] at e
  exact sumL_turn (l.take k) (l.drop (k + 1)) h (by simpa using e)

/-- The bits of a round, in 16 bits. -/
theorem nxt_u16 {x : Nat} (h : x < 65536) : bits .xor .u16 (IntKind.u16.wrap ((x : Int) * 2)) ((x : Int) / 32768 * 4129) = ((nxt x : Nat) : Int) := by
  rw [IntKind.wrap_u16]
  have e1 : (x : Int) * 2 % 65536 = ((x * 2 % 65536 : Nat) : Int) := by omega
  have e2 : (x : Int) / 32768 * 4129 = ((x / 32768 * 4129 : Nat) : Int) := by omega
  rw [e1, e2]
  exact u16_xor_nat _ _ (by omega) (by omega)
theorem with_u16 {x : Nat} (h : x < 65536) (b : UInt8) : bits .xor .u16 (x : Int) (IntKind.u16.wrap (IntKind.u16.wrap (b.toNat : Int) * 256)) = ((x ^^^ b.toNat * 256 : Nat) : Int) := by
  have := b.toNat_lt
  have e : IntKind.u16.wrap (IntKind.u16.wrap (b.toNat : Int) * 256) = ((b.toNat * 256 : Nat) : Int) := by rw [IntKind.wrap_u16, IntKind.wrap_u16]; omega
  rw [e]
  exact u16_xor_nat _ _ h (by omega)
theorem nxt_low {x : Nat} (h : x < 32768) : nxt x = x * 2 % 65536 := by
  unfold nxt
  rw [Nat.div_eq_of_lt h, Nat.zero_mul, Nat.xor_zero]
theorem nxt_high {x : Nat} (h : 32768 ≤ x) (hx : x < 65536) : nxt x = (x * 2 % 65536) ^^^ 4129 := by
  have e : x / 32768 = 1 := by omega
  unfold nxt
  rw [e, Nat.one_mul]
theorem i64_xor_nat (a b : Nat) (ha : a < 65536) (hb : b < 65536) : bits .xor .i64 (a : Int) (b : Int) = ((a ^^^ b : Nat) : Int) := by
  have hx : a ^^^ b < 2 ^ 16 := Nat.xor_lt_two_pow (by omega) (by omega)
  show IntKind.i64.wrap ((BitVec.ofInt 64 (a : Int) ^^^ BitVec.ofInt 64 (b : Int)).toNat : Int) = _
  rw [BitVec.toNat_xor, BitVec.ofInt_natCast, BitVec.ofInt_natCast, BitVec.toNat_ofNat, BitVec.toNat_ofNat, Nat.mod_eq_of_lt (show a < 2 ^ 64 by omega), Nat.mod_eq_of_lt (show b < 2 ^ 64 by omega), IntKind.wrap_i64]
  omega
theorem with_i64 {x : Nat} (h : x < 65536) (b : UInt8) : bits .xor .i64 (x : Int) (wrap64 ((b.toNat : Int) * 256)) = ((x ^^^ b.toNat * 256 : Nat) : Int) := by
  have := b.toNat_lt
  have e : wrap64 ((b.toNat : Int) * 256) = ((b.toNat * 256 : Nat) : Int) := by unfold wrap64; omega
  rw [e]
  exact i64_xor_nat _ _ h (by omega)

/-- What is told of bytes: the body, the bytes of its frame, the error. -/
def getL : List UInt8 → List UInt8 × Nat × Nat
  | [] => ([], 0, 801)
  | m :: t => if m ≠ 181 then ([], 0, 800) else
    match t with
    | [] => ([], 0, 801)
    | k :: r => if k.toNat < 1 ∨ 60 < k.toNat then ([], 0, 800) else
      match r.drop k.toNat with
      | h :: l :: _ => if sumL (k :: r.take k.toNat) = h.toNat * 256 + l.toNat then (r.take k.toNat, k.toNat + 4, 0) else ([], 0, 800)
      | _ => ([], 0, 801)
/-- What Get answers. -/
def getF (l : List UInt8) (a : Int) : ByteArray × Int × Int :=
  if a < 0 ∨ (l.length : Int) < a then (⟨#[]⟩, 0, 800) else
    let d := getL (l.drop a.toNat)
    if d.2.2 = 0 then (⟨d.1.toArray⟩, a + d.2.1, 0) else (⟨#[]⟩, 0, d.2.2)

theorem getL_mark {m : UInt8} {t : List UInt8} (h : m ≠ 181) : getL (m :: t) = ([], 0, 800) := by simp [getL, h]
theorem getL_one : getL [181] = ([], 0, 801) := by simp [getL]
theorem getL_len {k : UInt8} {r : List UInt8} (h : k.toNat < 1 ∨ 60 < k.toNat) : getL (181 :: k :: r) = ([], 0, 800) := by
  simp only [getL, ne_eq, not_true_eq_false, if_false, if_pos h]
theorem getL_cut {k : UInt8} {r : List UInt8} (h : ¬ (k.toNat < 1 ∨ 60 < k.toNat)) (hr : r.length < k.toNat + 2) : getL (181 :: k :: r) = ([], 0, 801) := by
  simp only [getL, ne_eq, not_true_eq_false, if_false, if_neg h]
  have hl : (r.drop k.toNat).length < 2 := by rw [List.length_drop]; omega
  match hd : r.drop k.toNat with
  | [] => rfl
  | [_] => rfl
  | _ :: _ :: _ => rw [hd] at hl; simp only [List.length_cons] at hl; omega
theorem getL_sum {k hh ll : UInt8} {r t : List UInt8} (h : ¬ (k.toNat < 1 ∨ 60 < k.toNat)) (hr : r.drop k.toNat = hh :: ll :: t) (hs : sumL (k :: r.take k.toNat) ≠ hh.toNat * 256 + ll.toNat) : getL (181 :: k :: r) = ([], 0, 800) := by
  simp only [getL, ne_eq, not_true_eq_false, if_false, if_neg h, hr, if_neg hs]
theorem getL_ok {k hh ll : UInt8} {r t : List UInt8} (h : ¬ (k.toNat < 1 ∨ 60 < k.toNat)) (hr : r.drop k.toNat = hh :: ll :: t) (hs : sumL (k :: r.take k.toNat) = hh.toNat * 256 + ll.toNat) : getL (181 :: k :: r) = (r.take k.toNat, k.toNat + 4, 0) := by
  simp only [getL, ne_eq, not_true_eq_false, if_false, if_neg h, hr, if_pos hs]
theorem getF_none {l : List UInt8} {a : Int} (h : a < 0 ∨ (l.length : Int) < a) : getF l a = (⟨#[]⟩, 0, 800) := if_pos h
theorem getF_err {l b : List UInt8} {a k e : Nat} (h : a ≤ l.length) (he : e ≠ 0) (hd : getL (l.drop a) = (b, k, e)) : getF l a = (⟨#[]⟩, 0, (e : Int)) := by
  unfold getF
  rw [if_neg (by omega), Int.toNat_natCast, hd]
  simp [he]
theorem getF_ok {l b : List UInt8} {a k : Nat} (h : a ≤ l.length) (hd : getL (l.drop a) = (b, k, 0)) : getF l a = (⟨b.toArray⟩, (a : Int) + k, 0) := by
  unfold getF
  rw [if_neg (by omega), Int.toNat_natCast, hd]
  simp

/-- The frame of a body: its length's byte and the body, then mark and sum around. -/
def lenL (l : List UInt8) : List UInt8 := UInt8.ofNat l.length :: l
def putL (l : List UInt8) : List UInt8 := 181 :: (lenL l ++ [UInt8.ofNat (sumL (lenL l) / 256), UInt8.ofNat (sumL (lenL l) % 256)])
/-- The frame, as a text. -/
def putS (s : ByteArray) : ByteArray := ⟨(putL s.data.toList).toArray⟩
theorem putL_len (l : List UInt8) : (putL l).length = l.length + 4 := by simp [putL, lenL]

end Go.Proofs.Ytoechlmahckchaa

namespace Go.Proofs.Ytoechlmahckchaa
open Go.RowKit

theorem len_byte {l : List UInt8} (h : l.length ≤ 60) : (UInt8.ofNat l.length).toNat = l.length := by
  rw [UInt8.toNat_ofNat']; omega
theorem len_may {l : List UInt8} (h1 : 1 ≤ l.length) (h : l.length ≤ 60) : ¬ ((UInt8.ofNat l.length).toNat < 1 ∨ 60 < (UInt8.ofNat l.length).toNat) := by
  rw [len_byte h]; omega
theorem hi_lo {X : Nat} (h : X < 65536) : X = (UInt8.ofNat (X / 256)).toNat * 256 + (UInt8.ofNat (X % 256)).toNat := by
  rw [UInt8.toNat_ofNat', UInt8.toNat_ofNat']; omega
theorem putL_eq (l : List UInt8) : putL l = 181 :: UInt8.ofNat l.length :: (l ++ [UInt8.ofNat (sumL (lenL l) / 256), UInt8.ofNat (sumL (lenL l) % 256)]) := rfl

/-- There and back, whatever stands behind. -/
theorem getL_put {l : List UInt8} (h1 : 1 ≤ l.length) (h : l.length ≤ 60) (q : List UInt8) : getL (putL l ++ q) = (l, l.length + 4, 0) := by
  rw [putL_eq, List.cons_append, List.cons_append]
  have hd : (l ++ [UInt8.ofNat (sumL (lenL l) / 256), UInt8.ofNat (sumL (lenL l) % 256)] ++ q).drop (UInt8.ofNat l.length).toNat = UInt8.ofNat (sumL (lenL l) / 256) :: UInt8.ofNat (sumL (lenL l) % 256) :: q := by
    rw [len_byte h, List.append_assoc, List.drop_left]; rfl
  have ht : (l ++ [UInt8.ofNat (sumL (lenL l) / 256), UInt8.ofNat (sumL (lenL l) % 256)] ++ q).take (UInt8.ofNat l.length).toNat = l := by
    rw [len_byte h, List.append_assoc, List.take_left]
  rw [getL_ok (len_may h1 h) hd (by rw [ht]; exact hi_lo (sumL_lt (lenL l))), ht, len_byte h]

theorem getL_begin {l : List UInt8} (h1 : 1 ≤ l.length) (h : l.length ≤ 60) {n : Nat} (hn : n < l.length + 4) : getL ((putL l).take n) = ([], 0, 801) := by
  rw [putL_eq]
  match n with
  | 0 => rfl
  | 1 => exact getL_one
  | n + 2 =>
    rw [List.take_succ_cons, List.take_succ_cons]
    refine getL_cut (len_may h1 h) ?_
    rw [len_byte h, List.length_take]
    simp
    omega

theorem getL_turn {l : List UInt8} (h1 : 1 ≤ l.length) (h : l.length ≤ 60) {j : Nat} (hj : j < (putL l).length) (hj1 : j ≠ 1) {c : UInt8} (hc : (putL l)[j] ≠ c) : getL ((putL l).set j c) = ([], 0, 800) := by
  rw [putL_len] at hj
  have hX := hi_lo (sumL_lt (lenL l))
  match j with
  | 0 => exact getL_mark (fun e => hc e.symm)
  | 1 => exact absurd rfl hj1
  | j + 2 =>
    have hc2 : (l ++ [UInt8.ofNat (sumL (lenL l) / 256), UInt8.ofNat (sumL (lenL l) % 256)])[j]'(by simp; omega) ≠ c := hc
    show getL (181 :: UInt8.ofNat l.length :: ((l ++ [UInt8.ofNat (sumL (lenL l) / 256), UInt8.ofNat (sumL (lenL l) % 256)]).set j c)) = _
    by_cases hjl : j < l.length
    · rw [List.set_append_left _ _ hjl]
      have hd : ((l.set j c) ++ [UInt8.ofNat (sumL (lenL l) / 256), UInt8.ofNat (sumL (lenL l) % 256)]).drop (UInt8.ofNat l.length).toNat = [UInt8.ofNat (sumL (lenL l) / 256), UInt8.ofNat (sumL (lenL l) % 256)] := by
        rw [len_byte h]; exact List.drop_left' (by simp)
      have ht : ((l.set j c) ++ [UInt8.ofNat (sumL (lenL l) / 256), UInt8.ofNat (sumL (lenL l) % 256)]).take (UInt8.ofNat l.length).toNat = l.set j c := by
        rw [len_byte h]; exact List.take_left' (by simp)
      refine getL_sum (len_may h1 h) hd ?_
      rw [ht, ← hX]
      have hcl : l[j] ≠ c := by rwa [List.getElem_append_left hjl] at hc2
      have h2 := sumL_set (l := lenL l) (k := j + 1) (by simp [lenL]; omega) (c := c) (by simpa [lenL] using hcl)
      exact fun e => h2 e.symm
    · have hd : ∀ a b : UInt8, (l ++ [a, b]).drop (UInt8.ofNat l.length).toNat = [a, b] := fun a b => by rw [len_byte h, List.drop_left]
      have ht : ∀ a b : UInt8, (l ++ [a, b]).take (UInt8.ofNat l.length).toNat = l := fun a b => by rw [len_byte h, List.take_left]
      have hm : j = l.length ∨ j = l.length + 1 := by omega
      rcases hm with rfl | rfl
      · have e : (l ++ [UInt8.ofNat (sumL (lenL l) / 256), UInt8.ofNat (sumL (lenL l) % 256)]).set l.length c = l ++ [c, UInt8.ofNat (sumL (lenL l) % 256)] := by
          rw [List.set_append_right _ _ (Nat.le_refl _)]; simp
        rw [e]
        refine getL_sum (len_may h1 h) (hd _ _) ?_
        rw [ht]
        have hcl : UInt8.ofNat (sumL (lenL l) / 256) ≠ c := by simpa using hc2
        intro e2
        have e3 := hX.symm.trans e2
        exact hcl (UInt8.toNat_inj.1 (by omega))
      · have e : (l ++ [UInt8.ofNat (sumL (lenL l) / 256), UInt8.ofNat (sumL (lenL l) % 256)]).set (l.length + 1) c = l ++ [UInt8.ofNat (sumL (lenL l) / 256), c] := by
          rw [List.set_append_right _ _ (by omega)]; simp
        rw [e]
        refine getL_sum (len_may h1 h) (hd _ _) ?_
        rw [ht]
        have hcl : UInt8.ofNat (sumL (lenL l) % 256) ≠ c := by simpa [List.getElem_append_right] using hc2
        intro e2
        have e3 := hX.symm.trans e2
        exact hcl (UInt8.toNat_inj.1 (by omega))

end Go.Proofs.Ytoechlmahckchaa

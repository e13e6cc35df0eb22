/-
  Operations out of any bytes: what stands at a byte; what comes of bytes, what waits, how many were none: plain words and facts. No program here.
-/
import Derived.Test.YtoechlmahckchaaG11a
import Derived.Test.YtoechlmahckchaaG11e
namespace Go.Proofs.Ytoechlmahckchaa
open Go.RowKit

/-- An operation's five numbers. -/
structure Po where
  k : Int
  so : Int
  se : Int
  ti : Int
  va : Int
def noP : Po := ⟨0, 0, 0, 0, 0⟩
def badP (n : Nat) : Po := ⟨3, 0, 0, 0, n⟩
def opP (x : Int × Int × Int × Int × Int) : Po := ⟨x.1, x.2.1, x.2.2.1, x.2.2.2.1, x.2.2.2.2⟩
/-- What stands at the first byte: 0 none, 1 an operation (it, and how many bytes), 2 cut. -/
def lookL (l : List UInt8) : Nat × Po × Nat :=
  if (getL l).2.2 = 801 then (2, noP, 0) else if (getL l).2.2 ≠ 0 then (0, noP, 0) else
    if (getO (getL l).1).2 = 0 then (1, opP (getO (getL l).1).1, (getL l).2.1) else (0, noP, 0)
theorem look_cut {l b : List UInt8} {k : Nat} (h : getL l = (b, k, 801)) : lookL l = (2, noP, 0) := by simp [lookL, h]
theorem look_bad {l b : List UInt8} {k e : Nat} (h : getL l = (b, k, e)) (h1 : e ≠ 801) (h0 : e ≠ 0) : lookL l = (0, noP, 0) := by simp [lookL, h, h1, h0]
theorem look_no {l b : List UInt8} {k : Nat} {x : Int × Int × Int × Int × Int} {z : Int} (h : getL l = (b, k, 0)) (ho : getO b = (x, z)) (hz : z ≠ 0) : lookL l = (0, noP, 0) := by simp [lookL, h, ho, hz]
theorem look_op {l b : List UInt8} {k : Nat} {x : Int × Int × Int × Int × Int} (h : getL l = (b, k, 0)) (ho : getO b = (x, 0)) : lookL l = (1, opP x, k) := by simp [lookL, h, ho]

/-- What Get of bytes tells: cut, none, or a frame that stands there. -/
theorem getL_cases (l : List UInt8) : (getL l = ([], 0, 801) ∧ l.length ≤ 63) ∨ (getL l = ([], 0, 800) ∧ l ≠ [] ∧ ∀ m, getL (l ++ m) = ([], 0, 800)) ∨
    ∃ b t, 1 ≤ b.length ∧ b.length ≤ 60 ∧ l = putL b ++ t ∧ getL l = (b, b.length + 4, 0) := by
  match l with
  | [] => exact .inl ⟨rfl, by simp⟩
  | m :: t =>
    by_cases hm : m = 181
    · subst hm
      match t with
      | [] => exact .inl ⟨getL_one, by simp⟩
      | k :: r =>
        by_cases hk : k.toNat < 1 ∨ 60 < k.toNat
        · exact .inr (.inl ⟨getL_len hk, by simp, fun m => getL_len hk⟩)
        · by_cases hr : r.length < k.toNat + 2
          · exact .inl ⟨getL_cut hk hr, by simp; omega⟩
          · have hd : ∃ hh ll t, r.drop k.toNat = hh :: ll :: t := by
              have hl : 2 ≤ (r.drop k.toNat).length := by rw [List.length_drop]; omega
              match r.drop k.toNat, hl with
              | a :: b :: t, _ => exact ⟨a, b, t, rfl⟩
            obtain ⟨hh, ll, t, hd⟩ := hd
            have hle : k.toNat ≤ r.length := by omega
            by_cases hs : sumL (k :: r.take k.toNat) = hh.toNat * 256 + ll.toNat
            · refine .inr (.inr ⟨r.take k.toNat, t, ?_, ?_, ?_, ?_⟩)
              · rw [List.length_take]; omega
              · rw [List.length_take]; omega
              · have hkl : (r.take k.toNat).length = k.toNat := by rw [List.length_take]; omega
                have e1 : UInt8.ofNat (r.take k.toNat).length = k := by rw [hkl]; exact UInt8.ofNat_toNat
                have h1 := hh.toNat_lt
                have h2 := ll.toNat_lt
                have e2 : UInt8.ofNat (sumL (lenL (r.take k.toNat)) / 256) = hh := by
                  unfold lenL; rw [e1, hs, show (hh.toNat * 256 + ll.toNat) / 256 = hh.toNat by omega]; exact UInt8.ofNat_toNat
                have e3 : UInt8.ofNat (sumL (lenL (r.take k.toNat)) % 256) = ll := by
                  unfold lenL; rw [e1, hs, show (hh.toNat * 256 + ll.toNat) % 256 = ll.toNat by omega]; exact UInt8.ofNat_toNat
                rw [putL_eq, e1, e2, e3]
                simp only [List.cons_append, List.append_assoc, List.nil_append]
                rw [← hd, List.take_append_drop]
              · rw [getL_ok hk hd hs, List.length_take, Nat.min_eq_left hle]
            · refine .inr (.inl ⟨getL_sum hk hd hs, by simp, fun m => ?_⟩)
              show getL (181 :: k :: (r ++ m)) = _
              refine getL_sum (hh := hh) (ll := ll) (t := t ++ m) hk ?_ ?_
              · rw [List.drop_append_of_le_length hle, hd]; rfl
              · rw [List.take_append_of_le_length hle]; exact hs
    · exact .inr (.inl ⟨getL_mark hm, by simp, fun _ => getL_mark hm⟩)

/-- The bytes of an operation's frame; none, if it may not be. -/
def frameO (o : Po) : List UInt8 := if mayB o.k o.so o.se o.ti o.va = true then putL (encs (numsO o.k o.so o.se o.ti o.va)) else []
def MayP (o : Po) : Prop := MayO o.k o.so o.se o.ti o.va
theorem frameO_yes {o : Po} (h : MayP o) : frameO o = putL (encs (numsO o.k o.so o.se o.ti o.va)) := if_pos (mayB_yes h)
theorem frameO_no {o : Po} (h : ¬ MayP o) : frameO o = [] := if_neg (by rw [mayB_no h]; simp)
theorem frameO_len {o : Po} (h : MayP o) : 5 ≤ (frameO o).length ∧ (frameO o).length ≤ 54 := by
  have h1 := encs_size h
  rw [frameO_yes h, putL_len]; omega
theorem bad_not (n : Nat) : ¬ MayP (badP n) := fun h => by have := h.wide; simp [badP] at this
theorem look_cases (l : List UInt8) : (lookL l = (2, noP, 0) ∧ l.length ≤ 63) ∨ (lookL l = (0, noP, 0) ∧ l ≠ [] ∧ ∀ m, lookL (l ++ m) = (0, noP, 0)) ∨
    ∃ o t, MayP o ∧ l = frameO o ++ t ∧ lookL l = (1, o, (frameO o).length) ∧ ∀ m, lookL (l ++ m) = (1, o, (frameO o).length) := by
  rcases getL_cases l with ⟨h, hl⟩ | ⟨h, hn, hm⟩ | ⟨b, t, h1, h60, e, h⟩
  · exact .inl ⟨look_cut h, hl⟩
  · exact .inr (.inl ⟨look_bad h (by decide) (by decide), hn, fun m => look_bad (hm m) (by decide) (by decide)⟩)
  · have hm : ∀ m, getL (l ++ m) = (b, b.length + 4, 0) := fun m => by rw [e, List.append_assoc]; exact getL_put h1 h60 _
    have hne : l ≠ [] := by rw [e]; simp [putL]
    rcases getO_back b with ⟨kd, so, se, ti, va, hM, hg, he⟩ | hg
    · have hf : frameO ⟨kd, so, se, ti, va⟩ = putL b := by rw [frameO_yes (show MayP ⟨kd, so, se, ti, va⟩ from hM)]; exact congrArg putL he
      refine .inr (.inr ⟨⟨kd, so, se, ti, va⟩, t, hM, by rw [hf]; exact e, ?_, fun m => ?_⟩)
      · rw [hf, putL_len]; exact look_op h hg
      · rw [hf, putL_len]; exact look_op (hm m) hg
    · exact .inr (.inl ⟨look_no h hg (by decide), hne, fun m => look_no (hm m) hg (by decide)⟩)
theorem look_frame {o : Po} (h : MayP o) (m : List UInt8) : lookL (frameO o ++ m) = (1, o, (frameO o).length) := by
  have h1 := encs_size h
  rw [frameO_yes h, putL_len]
  exact look_op (getL_put (by omega) (by omega) m) (getO_put h)
theorem look_begin {o : Po} (h : MayP o) {n : Nat} (hn : n < (frameO o).length) : lookL ((frameO o).take n) = (2, noP, 0) := by
  have h1 := encs_size h
  rw [frameO_yes h] at hn ⊢
  rw [putL_len] at hn
  exact look_cut (getL_begin (by omega) (by omega) hn)
theorem look_far {m : UInt8} (h : m ≠ 181) (t : List UInt8) : lookL (m :: t) = (0, noP, 0) := look_bad (getL_mark h) (by decide) (by decide)

def tellB (b : Nat) : List Po := if b = 0 then [] else [badP b]
/-- One byte more that is none. -/
def upB (b : Nat) : Nat := min (b + 1) 1073741823
/-- What comes of bytes, what waits of them, how many were none since the last operation; last: nothing comes behind. -/
def runN (last : Bool) : Nat → List UInt8 → Nat → List Po × List UInt8 × Nat
  | 0, l, b => ([], l, b)
  | _ + 1, [], b => ([], [], b)
  | n + 1, x :: t, b =>
    if (lookL (x :: t)).1 = 1 then
      let q := runN last n ((x :: t).drop (lookL (x :: t)).2.2) 0
      (tellB b ++ (lookL (x :: t)).2.1 :: q.1, q.2)
    else if (lookL (x :: t)).1 = 2 ∧ last = false then ([], x :: t, b)
    else runN last n t (upB b)
def runL (last : Bool) (l : List UInt8) (b : Nat) : List Po × List UInt8 × Nat := runN last l.length l b
theorem runN_same (last : Bool) : ∀ (n m : Nat) (l : List UInt8) (b : Nat), l.length ≤ n → l.length ≤ m → runN last n l b = runN last m l b
  | 0, 0, _, _, _, _ => rfl
  | 0, m + 1, l, b, h, _ => by
    have : l = [] := List.eq_nil_of_length_eq_zero (by omega)
    subst this; rfl
  | n + 1, 0, l, b, _, h => by
    have : l = [] := List.eq_nil_of_length_eq_zero (by omega)
    subst this; rfl
  | n + 1, m + 1, [], b, _, _ => rfl
  | n + 1, m + 1, x :: t, b, h1, h2 => by
    simp only [List.length_cons] at h1 h2
    rcases look_cases (x :: t) with ⟨h, _⟩ | ⟨h, _⟩ | ⟨o, r, hM, e, h, _⟩
    · simp [runN, h, runN_same last n m t (upB b) (by omega) (by omega)]
    · simp [runN, h, runN_same last n m t (upB b) (by omega) (by omega)]
    · have hl := frameO_len hM
      have hd : ((x :: t).drop (frameO o).length).length ≤ t.length := by rw [List.length_drop, List.length_cons]; omega
      simp [runN, h, runN_same last n m ((x :: t).drop (frameO o).length) 0 (by omega) (by omega)]
theorem runL_nil (last : Bool) (b : Nat) : runL last [] b = ([], [], b) := rfl
theorem runL_op {last : Bool} {l : List UInt8} {o : Po} {k : Nat} {b : Nat} (h : lookL l = (1, o, k)) (hk : 1 ≤ k) :
    runL last l b = (tellB b ++ o :: (runL last (l.drop k) 0).1, (runL last (l.drop k) 0).2) := by
  match l with
  | [] => simp [lookL, getL] at h
  | x :: t =>
    have e : runN last t.length ((x :: t).drop k) 0 = runL last ((x :: t).drop k) 0 := runN_same last _ _ _ _ (by rw [List.length_drop, List.length_cons]; omega) (Nat.le_refl _)
    show runN last (t.length + 1) (x :: t) b = _
    simp only [runN, h, if_true, e]
theorem runL_cut {l : List UInt8} {o : Po} {k b : Nat} (h : lookL l = (2, o, k)) : runL false l b = ([], l, b) := by
  match l with
  | [] => rfl
  | x :: t =>
    show runN false (t.length + 1) (x :: t) b = _
    simp [runN, h]
theorem runL_none {last : Bool} {x : UInt8} {t : List UInt8} {s b : Nat} {o : Po} {k : Nat} (h : lookL (x :: t) = (s, o, k)) (hs : s = 0 ∨ (s = 2 ∧ last = true)) : runL last (x :: t) b = runL last t (upB b) := by
  show runN last (t.length + 1) (x :: t) b = _
  rcases hs with rfl | ⟨rfl, rfl⟩
  · simp [runN, h, runL]
  · simp [runN, h, runL]

/-- What waits is cut; when nothing comes behind, nothing waits; of the bytes that were none not too many are counted; how many come at most. -/
theorem runL_fits (last : Bool) : ∀ (n : Nat) (l : List UInt8) (b : Nat), l.length ≤ n → b ≤ 1073741823 →
    (lookL (runL last l b).2.1).1 = 2 ∧ (last = true → (runL last l b).2.1 = []) ∧ (runL last l b).2.2 ≤ 1073741823 ∧ (runL last l b).1.length ≤ 2 * l.length ∧ (∀ o ∈ (runL last l b).1, MayP o ∨ ∃ k, 0 < k ∧ k ≤ 1073741823 ∧ o = badP k)
  | n, [], b, _, hb => ⟨rfl, fun _ => rfl, hb, Nat.zero_le _, fun o h => by cases h⟩
  | 0, _ :: _, _, h, _ => by simp at h
  | n + 1, x :: t, b, h, hb => by
    simp only [List.length_cons] at h
    have hu : upB b ≤ 1073741823 := by unfold upB; omega
    have ht := runL_fits last n t (upB b) (by omega) hu
    have none : runL last (x :: t) b = runL last t (upB b) → (lookL (runL last (x :: t) b).2.1).1 = 2 ∧ (last = true → (runL last (x :: t) b).2.1 = []) ∧ (runL last (x :: t) b).2.2 ≤ 1073741823 ∧ (runL last (x :: t) b).1.length ≤ 2 * (x :: t).length ∧ (∀ o ∈ (runL last (x :: t) b).1, MayP o ∨ ∃ k, 0 < k ∧ k ≤ 1073741823 ∧ o = badP k) := fun e => by
      rw [e]
      exact ⟨ht.1, ht.2.1, ht.2.2.1, by simp only [List.length_cons]; have := ht.2.2.2.1; omega, ht.2.2.2.2⟩
    rcases look_cases (x :: t) with ⟨hl, _⟩ | ⟨hl, _⟩ | ⟨o, r, hM, e, hl, _⟩
    · cases last with
      | false => rw [runL_cut hl]; exact ⟨by rw [hl], (fun h => by cases h), hb, Nat.zero_le _, fun o h => by cases h⟩
      | true => exact none (runL_none hl (.inr ⟨rfl, rfl⟩))
    · exact none (runL_none hl (.inl rfl))
    · have h5 := frameO_len hM
      have hd : ((x :: t).drop (frameO o).length).length + 5 ≤ (x :: t).length := by
        have : (x :: t).length = (frameO o).length + r.length := by rw [e]; simp
        rw [List.length_drop]; omega
      have hr := runL_fits last n ((x :: t).drop (frameO o).length) 0 (by simp only [List.length_cons] at hd; omega) (by omega)
      rw [runL_op hl (by omega)]
      refine ⟨hr.1, hr.2.1, hr.2.2.1, ?_, fun y hy => ?_⟩
      · have h1 : (tellB b).length ≤ 1 := by unfold tellB; split <;> simp
        simp only [List.length_append, List.length_cons] at hd ⊢
        have := hr.2.2.2.1
        omega
      · simp only [List.mem_append, List.mem_cons] at hy
        rcases hy with hy | rfl | hy
        · unfold tellB at hy
          split at hy
          · cases hy
          · obtain rfl : y = badP b := by simpa using hy
            exact .inr ⟨b, by omega, hb, rfl⟩
        · exact .inl hM
        · exact hr.2.2.2.2 y hy
theorem look_two {l : List UInt8} (h : (lookL l).1 = 2) : lookL l = (2, noP, 0) ∧ l.length ≤ 63 := by
  rcases look_cases l with h1 | ⟨h1, _⟩ | ⟨o, t, _, _, h1, _⟩
  · exact h1
  · rw [h1] at h; cases h
  · rw [h1] at h; cases h
/-- Bytes that come behind: as if all had come at once. -/
theorem runL_more (last : Bool) : ∀ (n : Nat) (l : List UInt8) (b : Nat) (m : List UInt8), l.length ≤ n →
    runL last (l ++ m) b = ((runL false l b).1 ++ (runL last ((runL false l b).2.1 ++ m) (runL false l b).2.2).1, (runL last ((runL false l b).2.1 ++ m) (runL false l b).2.2).2)
  | n, [], b, m, _ => by rw [runL_nil]; rfl
  | 0, _ :: _, _, _, h => by simp at h
  | n + 1, x :: t, b, m, h => by
    simp only [List.length_cons] at h
    rcases look_cases (x :: t) with ⟨hl, _⟩ | ⟨hl, _, hm⟩ | ⟨o, r, hM, e, hl, hm⟩
    · rw [runL_cut hl]; rfl
    · rw [runL_none (last := false) hl (.inl rfl), List.cons_append, runL_none (by rw [← List.cons_append]; exact hm m) (.inl rfl)]
      exact runL_more last n t _ m (by omega)
    · have h5 := frameO_len hM
      have hd : ((x :: t).drop (frameO o).length).length ≤ n := by rw [List.length_drop, List.length_cons]; omega
      have hle : (frameO o).length ≤ (x :: t).length := by rw [e]; simp
      rw [runL_op (last := false) hl (by omega), runL_op (hm m) (by omega), List.drop_append_of_le_length hle, runL_more last n _ 0 m hd]
      simp
/-- All that comes of bytes when nothing comes behind them. -/
def allL (l : List UInt8) (b : Nat) : List Po := (runL true l b).1 ++ tellB (runL true l b).2.2
theorem allL_more (l m : List UInt8) (b : Nat) : allL (l ++ m) b = (runL false l b).1 ++ allL ((runL false l b).2.1 ++ m) (runL false l b).2.2 := by
  unfold allL
  rw [runL_more true _ l b m (Nat.le_refl _), List.append_assoc]
theorem allL_close (l : List UInt8) (b : Nat) : allL l b = (runL false l b).1 ++ allL (runL false l b).2.1 (runL false l b).2.2 := by
  have := allL_more l [] b
  rwa [List.append_nil, List.append_nil] at this

end Go.Proofs.Ytoechlmahckchaa

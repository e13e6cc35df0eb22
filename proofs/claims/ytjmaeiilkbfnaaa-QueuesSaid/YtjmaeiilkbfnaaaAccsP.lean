/-
  What Accs hangs on: SpoilInts that leaves all but its own; One and Join told alike.
-/
import Derived.Test.YtjmaeiilkbfnaaaQ7
import Derived.Great.Walk
namespace Go.Proofs.Ytjmaeiilkbfnaaa
open Go.RowKit

/-- A slice of integers that may be written. -/
structure SpT (w : World) (base g n : Nat) (wr : World) : Prop where
  cells : ∃ t cs, Has wr g t cs ∧ ∀ i, i < n → ∃ z, cs[i]? = some (.int .i64 z)
  keep : Below base w wr
  far : base ≤ g
  other : ∀ k, k ≠ g → wr.heap[k]? = w.heap[k]?

set_option maxRecDepth 100000 in
set_option maxHeartbeats 1000000 in
theorem spoil_own (A : Option Addr) (n c : Nat) (xs : List Int) (base : Nat) (w : World) (ho : OwnI w base (.slice A n c) xs) (hn : n ≤ maxLen) :
    Calls Try.prog 17 #[.slice A n c] w fun e w' => e = .returned (.tuple #[]) ∧ Below base w w' ∧ ∀ k, (∀ ad, A = some ad → k ≠ ad.block) → w'.heap[k]? = w.heap[k]? := by
  unfold maxLen at hn
  go_enter Try.func17, Try.ntmps17
  by_cases h0 : n = 0
  · subst h0
    go_wp2
    refine wp_loop_rounds 1 ?_; rw [rounds_succ]
    go_wp2
    exact Great.bodyPost_end0 rfl rfl ⟨rfl, Below.refl _ _, fun _ _ => rfl⟩
  · have hS : ∃ g, A = some ⟨g, 0, none⟩ ∧ SpT w base g n w := by
      have hints := ho.ints
      obtain ⟨b, o, e, hc⟩ := hints.at_ (k := 0) (by omega)
      rcases ho.2 with ⟨e1, h1⟩ | ⟨g, cap, cur, e1, hg, hh, hn1, hc1, hs1, _⟩
      · injection e1 with e2 e3 e4
        omega
      · injection e1 with e2 e3 e4
        subst e2
        refine ⟨g, rfl, ⟨3, cur, hh, fun i hi => ⟨nth xs i, ?_⟩⟩, Below.refl _ _, hg, fun _ _ => rfl⟩
        injection e with e
        injection e with e5 e6
        subst e5 e6
        have := hc i hi
        rw [Nat.zero_add] at this
        rw [← Has.cell (g := g) (w := w) hh i]; exact this
    obtain ⟨g, rfl, hS⟩ := hS
    clear ho
    have HS := Lib.hid hS; clear hS
    go_wp2_with fail
    go_loopw [2] (fun i wr => ∃ j : Nat, j ≤ n ∧ i = .int .i64 j ∧ Hid (SpT w base g n wr)) (fun i _ => n - (intOf i).toNat)
    case atStart => exact ⟨0, Nat.zero_le _, rfl, HS⟩
    case round =>
      clear HS
      obtain ⟨j, hj, rfl, HS⟩ := hrel
      by_cases hlt : j < n
      · obtain ⟨t, cs, hh, hz⟩ := HS.out.cells
        obtain ⟨z, hz1⟩ := hz j hlt
        have hcell : wr.cell? ⟨g, j, none⟩ = some (.int .i64 z) := (hh.cell j).trans hz1
        have hmark := hh.mark j
        have hjn : (j : Int) < (n : Int) := by omega
        have HZ := Lib.hid hz; clear hz
        have HH := Lib.hid hh; clear hh
        have HZ1 := Lib.hid hz1; clear hz1
        go_wp2_with fail
        go_roundw
        case rel =>
          refine ⟨j + 1, by omega, by go_num, ⟨t, _, HH.out.put j _, fun i hi => ?_⟩, HS.out.keep.setCell HS.out.far _, HS.out.far, fun k hk => (heap_setCell_other _ _ k _ hk).trans (HS.out.other k hk)⟩
          by_cases e : j = i
          · subst e
            have hl : j < cs.size := (Array.getElem?_eq_some_iff.1 HZ1.out).1
            exact ⟨_, by rw [Array.getElem?_setIfInBounds_self_of_lt hl]⟩
          · obtain ⟨z2, hz2⟩ := HZ.out i hi
            exact ⟨z2, by rw [Array.getElem?_setIfInBounds_ne e]; exact hz2⟩
        case measure => simp [intOf]; omega
      · have hjn : j = n := by omega
        subst hjn
        go_wp2
        exact Great.bodyPost_end0 rfl rfl ⟨rfl, HS.out.keep, fun k hk => HS.out.other k (hk _ rfl)⟩


/-- The call hands out this aggregate with a code, its buckets its own. -/
def AcOut (V : Ac) (code : Int) (w : World) (e : Ending) (w' : World) : Prop :=
  ∃ A n c, e = .returned (.tuple #[accV V A n c, .int .i64 code]) ∧ OwnI w' w.heap.size (.slice A n c) V.h ∧ Below w.heap.size w w'
/-- The call hands out this aggregate with a code. -/
def RfOut (V : Ac) (code : Int) (w : World) (e : Ending) (w' : World) : Prop :=
  ∃ A n c, e = .returned (.tuple #[accV V A n c, .int .i64 code]) ∧ Ints w' A n V.h ∧ n ≤ maxLen ∧ Below w.heap.size w w'
theorem ac_good {a : Ac} {w : World} {e : Ending} {w' : World} (hl : a.h.length ≤ maxLen) (h : GoodAcc a w e w') : AcOut a 0 w e w' := by
  obtain ⟨g, hg, rfl, hh, hb⟩ := h
  refine ⟨some ⟨g, 0, none⟩, a.h.length, a.h.length, rfl, ⟨by simp [intL], .inr ⟨g, a.h.length, ints a.h, rfl, hg, hh, Nat.le_refl _, hl, by simp [ints], ?_⟩⟩, hb⟩
  simp only [ints, intL, Nat.mul_one]
  exact List.take_of_length_le (by simp)
theorem ac_bad {code : Int} {w : World} {e : Ending} {w' : World} (h : BadAcc code w e w') : AcOut zeroAc code w e w' := ⟨none, 0, 0, h.1, OwnI.nil _ _, h.2⟩
theorem rf_good {a : Ac} {w : World} {e : Ending} {w' : World} (hl : a.h.length ≤ maxLen) (h : GoodAcc a w e w') : RfOut a 0 w e w' := by
  obtain ⟨g, hg, rfl, hh, hb⟩ := h
  exact ⟨some ⟨g, 0, none⟩, a.h.length, a.h.length, rfl, ints_of_has hh rfl, hl, hb⟩
theorem rf_bad {code : Int} {w : World} {e : Ending} {w' : World} (h : BadAcc code w e w') : RfOut zeroAc code w e w' := ⟨none, 0, 0, h.1, Ints.nil, Nat.zero_le _, h.2⟩
theorem both_one (x : It) (bs : List Int) (m : Nat) (hm : m ≤ maxLen) : ∃ (V : Ac) (code : Int),
    (∀ W B d, Ints W B m bs → Calls Try.prog 9 #[.agg #[.int .i64 x.s, .int .i64 x.t, .int .i64 x.q, .int .i64 x.v], .slice B m d] W (AcOut V code W)) ∧
    (∀ W B d, Ints W B m bs → Calls Try.prog 10 #[.agg #[.int .i64 x.s, .int .i64 x.t, .int .i64 x.q, .int .i64 x.v], .slice B m d] W (RfOut V code W)) := by
  cases h : (itemB x && boundsB bs)
  · exact ⟨zeroAc, 100, fun W B d hI => (one_bad x B m d bs W hI hm h).mono fun _ _ => ac_bad, fun W B d hI => (rone_bad x B m d bs W hI hm h).mono fun _ _ => rf_bad⟩
  · simp only [Bool.and_eq_true] at h
    have hl : (oneAc x bs).h.length ≤ maxLen := by rw [one_hlen]; have := (boundsB_true h.2).1; unfold maxLen; omega
    exact ⟨oneAc x bs, 0, fun W B d hI => (one_ok x B m d bs W hI h.1 h.2).mono fun _ _ => ac_good hl, fun W B d hI => (rone_ok x B m d bs W hI h.1 h.2).mono fun _ _ => rf_good hl⟩
theorem joinAc_len (bs : List Int) (xs : List Ac) : (joinAc bs xs).h.length = bs.length + 1 := by
  have key : ∀ (ys : List Ac) (z : Ac), (ys.foldl joinStep z).h.length = z.h.length := by
    intro ys
    induction ys with
    | nil => intro z; rfl
    | cons y r ih =>
      intro z
      rw [List.foldl_cons, ih]
      unfold joinStep
      split
      · rfl
      · exact addAc_hlen _ _
  exact (key xs _).trans (by simp)
theorem both_join (bs : List Int) (xs : List Ac) (m n : Nat) (hm : m ≤ maxLen) (hn : n ≤ 17592186044416) : ∃ (V : Ac) (code : Int),
    (∀ W B d A c, Ints W B m bs → Accs W A n xs → Calls Try.prog 11 #[.slice B m d, .slice A n c] W (AcOut V code W)) ∧
    (∀ W B d A c, Ints W B m bs → Accs W A n xs → Calls Try.prog 12 #[.slice B m d, .slice A n c] W (RfOut V code W)) := by
  cases h : (boundsB bs && togB (bs.length + 1) (-1) xs)
  · refine ⟨zeroAc, 100, fun W B d A c hI hA => (join_form B m d bs A n c xs W hI hm hA hn h).mono fun _ _ => ac_bad, fun W B d A c hI hA => (rjoin_any B m d bs A n c xs W hI hm hA hn).mono fun e w' hR => ?_⟩
    rcases hR with ⟨_, hb⟩ | ⟨ht, _, _⟩ | ⟨ht, _, _⟩
    · exact rf_bad hb
    · rw [h] at ht; cases ht
    · rw [h] at ht; cases ht
  · have h2 := h
    simp only [Bool.and_eq_true] at h2
    have hl : (joinAc bs xs).h.length ≤ maxLen := by rw [joinAc_len]; have := (boundsB_true h2.1).1; unfold maxLen; omega
    by_cases ht8 : totalA xs ≤ 8192
    · refine ⟨joinAc bs xs, 0, fun W B d A c hI hA => (join_ok B m d bs A n c xs W hI hA hn h2.1 h2.2 ht8).mono fun _ _ => ac_good hl, fun W B d A c hI hA => (rjoin_any B m d bs A n c xs W hI hm hA hn).mono fun e w' hR => ?_⟩
      rcases hR with ⟨ht, _⟩ | ⟨_, _, A', n', c', he, hin, hb⟩ | ⟨_, ht, _⟩
      · rw [h] at ht; cases ht
      · exact ⟨A', n', c', he, hin.hist, Nat.le_trans hin.cap hin.most, hb⟩
      · omega
    · refine ⟨zeroAc, 101, fun W B d A c hI hA => (join_total B m d bs A n c xs W hI hA hn h2.1 h2.2 (by omega)).mono fun _ _ => ac_bad, fun W B d A c hI hA => (rjoin_any B m d bs A n c xs W hI hm hA hn).mono fun e w' hR => ?_⟩
      rcases hR with ⟨ht, _⟩ | ⟨_, ht, _⟩ | ⟨_, _, hb⟩
      · rw [h] at ht; cases ht
      · omega
      · exact rf_bad hb
/-- What is lent reads as the bounds. -/
theorem lent_ints {w : World} {base n c : Nat} {A : Option Addr} {xs : List Int} (hl : OwnI w base (.slice A (n + 2) c) (xs ++ [-7777, -8888])) (hx : xs.length = n) : Ints w A n xs := by
  obtain ⟨b, o, rfl, hc⟩ := hl.ints.at_ (k := 0) (by omega)
  exact ⟨hx, fun _ => ⟨b, o, rfl, fun k hk => by
    have := hc k (by omega)
    rw [show nth (xs ++ [-7777, -8888]) k = nth xs k by simp [nth, List.getElem?_append_left (show k < xs.length by omega)]] at this
    exact this⟩⟩

end Go.Proofs.Ytjmaeiilkbfnaaa

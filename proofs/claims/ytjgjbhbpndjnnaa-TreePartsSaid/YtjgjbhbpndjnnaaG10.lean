/-
  Walks: acc.Join, all well.
  Plain facts on what is known of one item, and of some items, one behind the other. No program here.
-/
import Derived.Test.YtjgjbhbpndjnnaaG9
namespace Go.Proofs.Ytjgjbhbpndjnnaa
open Go.RowKit

def startJ (bs : List Int) : Ac := ⟨0, 0, 0, 0, zeroIt, zeroIt, List.replicate (bs.length + 1) 0⟩
/-- What stands at the head of each round of Join's loop: g the result's cell, y the buckets' block, y + 1 the sum's. -/
structure Joining (w : World) (g y : Nat) (o : Ac) (m : Nat) (wr : World) : Prop where
  res : Has wr g 29 (accC zeroAc none 0 0)
  out : Has wr (y + 1) 29 (accC o (some ⟨y, 0, none⟩) m m)
  hist : Has wr y 3 (ints o.h)
  keep : Below w.heap.size w wr

set_option maxRecDepth 100000 in
set_option maxHeartbeats 2000000 in
theorem join_ok (B : Option Addr) (m d : Nat) (bs : List Int) (A : Option Addr) (n c : Nat) (xs : List Ac) (w : World) (hbs : Ints w B m bs) (hr : Accs w A n xs) (hn : n ≤ 17592186044416) (h1 : boundsB bs = true) (h2 : togB (bs.length + 1) (-1) xs = true) (h3 : totalA xs ≤ 8192) :
    Calls Try.prog 13 #[.slice B m d, .slice A n c] w (GoodAcc (joinAc bs xs) w) := by
  have HL := Lib.hid hbs.1
  have HN := Lib.hid hr.1
  have h8 : m ≤ 8 := by have := (boundsB_true h1).1; rw [HL.out] at this; exact this
  have hm1 : 0 ≤ (m : Int) + 1 ∧ (m : Int) + 1 ≤ 9 := by omega
  have HFT : Hid (∀ i, i < n → Fit (m + 1) (nthA xs i)) := fun i hi => by
    have := fit_of (m := bs.length + 1) (togB_fit h2 (i := i) (by rw [hr.1]; exact hi)); rw [HL.out] at this; exact this
  have HF : Hid (∀ i, i < n → 0 ≤ (nthA xs i).n ∧ (nthA xs i).n ≤ 8192) := fun i hi => ⟨(HFT.out i hi).n0, (HFT.out i hi).n1⟩
  have HJF : Hid (∀ j, j ≤ n → Fit (m + 1) (joinTo (m + 1) xs j)) := fun j hj => joinTo_fit (fun i hi => HFT.out i (by rw [HN.out] at hi; exact hi)) h3 (by rw [HN.out]; exact hj)
  have H1 := Lib.hid h1; clear h1
  have H2 := Lib.hid h2; clear h2
  have H3 := Lib.hid h3
  have HBS := Lib.hid hbs; clear hbs
  have HR := Lib.hid hr; clear hr
  have hbox : ∀ o, Below w.heap.size w (w.alloc o) := fun o => (Below.refl _ _).alloc (Nat.le_refl _) o
  have HBOX := Lib.hid hbox; clear hbox
  obtain ⟨i0, hi0, hz0, hs0, hy0⟩ := info_parts Try.infoInt
  have hmk := fun W => make_ints (P := Try.prog) 25 3 i0 Try.underlying25 hi0 hz0 hs0 hy0 m (by omega) W
  clear hi0 hz0 hs0 hy0
  go_enter Try.func13, Try.ntmps13
  go_wp2_with fail
  refine (bounds_any B m d bs _ (HBS.out.below (HBOX.out _)) (by unfold maxLen; omega)).mono ?_
  rintro e w1 ⟨rfl, k, hk⟩
  have hb1 : Below w.heap.size w w1 := hk ▸ below_drewN (HBOX.out _) k
  have H4 : Has w1 w.heap.size 29 _ := hk ▸ (Has.made w _ _).drewN k
  clear hk
  rw [H1.out]
  go_wp2_with fail
  refine (together_any A n c xs ((m : Int) + 1) _ (HR.out.below hb1) hm1 hn).mono ?_
  rintro e w2 ⟨rfl, hb2⟩
  have hB2 : Below w.heap.size w w2 := hb1.trans (hb2.mono hb1.size)
  have H42 : Has w2 w.heap.size 29 _ := H4.below hb2 H4.lt
  clear H4
  rw [show togB ((m : Int) + 1) (-1) xs = true from by have := H2.out; rw [HL.out] at this; exact this]
  go_wp2_with fail
  refine (total_any A n c xs _ (HR.out.below hB2) hn HF.out).mono ?_
  rintro e w3 ⟨rfl, hb3⟩
  have hB3 : Below w.heap.size w w3 := hB2.trans (hb3.mono hB2.size)
  have H43 := Lib.hid (H42.below hb3 H42.lt)
  clear H42 hb2 hb3 hb1
  go_wp2_with (refine store_made rfl _ _ rfl (ac := startJ bs) (A := some ⟨w3.heap.size, 0, none⟩) (k := m + 1) (c := m + 1) rfl rfl rfl ?_)
  clear hmk
  have HJ : Joining w w.heap.size w3.heap.size (joinTo (m + 1) xs 0) (m + 1) ((w3.alloc (.cells (zeros (m + 1)) 3)).alloc (.cells (accC (startJ bs) (some ⟨w3.heap.size, 0, none⟩) (m + 1) (m + 1)) 29)) :=
    ⟨(Has.alloc (Has.alloc H43.out _) _), heap_alloc2_new _ _ _, by have h := heap_alloc2_old w3 (.cells (zeros (m + 1)) 3) (.cells (accC (startJ bs) (some ⟨w3.heap.size, 0, none⟩) (m + 1) (m + 1)) 29); rw [zeros_ints] at h ⊢; exact h, below_alloc (below_alloc hB3 (Nat.le_refl _) _) (Nat.le_refl _) _⟩
  have HJ0 := Lib.hid HJ; clear HJ
  go_loopw [32] (fun i wr => ∃ j : Nat, j ≤ n ∧ i = .int .i64 j ∧ Hid (Joining w w.heap.size w3.heap.size (joinTo (m + 1) xs j) (m + 1) wr)) (fun i _ => n - (intOf i).toNat)
  case atStart => exact ⟨0, Nat.zero_le _, rfl, HJ0⟩
  case round =>
    obtain ⟨j, hj, rfl, HJ⟩ := hrel
    by_cases hlt : j < n
    · obtain ⟨b, o, rfl, hi⟩ := HR.out.at_ (by omega)
      obtain ⟨C, kk, cc, hx⟩ := hi j hlt
      have HX0 := Lib.hid hx; clear hx hi
      have HX : Hid _ := HX0.out.keep fun _ hp => HJ.out.keep.cell hp
      have hfa := HFT.out j hlt
      have hfo := HJF.out j hj
      have hfn := HJF.out (j + 1) hlt
      have hsucc := joinTo_succ (m := m + 1) (xs := xs) (j := j) (by rw [HN.out]; exact hlt)
      obtain rfl : kk = m + 1 := by have := HX.out.2.1.1; rw [hfa.len] at this; omega
      have HS := Lib.hid hsucc; clear hsucc
      have HFA := Lib.hid hfa; clear hfa
      have HFO := Lib.hid hfo; clear hfo
      have HFN := Lib.hid hfn; clear hfn
      go_wp2_with (first | (refine load_acc rfl _ rfl b (o + j * 13) rfl HX.out ?_) | (refine store_made rfl _ _ rfl rfl rfl rfl ?_) | (refine load_has rfl _ rfl wr.heap.size rfl (Has.made _ _ _) ?_))
      generalize nthA xs j = a at HX0 HX HS HFA ⊢
      generalize joinTo (m + 1) xs j = q at HJ HS HFO
      have hblk : ∀ ad, C = some ad → ad.block < w.heap.size + 1 := by
        intro ad e
        obtain ⟨b', o', e', hc⟩ := HX0.out.2.1.at_ (k := 0) (by omega)
        rw [e'] at e
        obtain rfl := Option.some.inj e
        have := block_lt_of_cell (hc 0 (by omega))
        show b' < _
        simp only at this
        omega
      by_cases hz : a.n = 0
      · refine (add_none a _ C _ _ _ (by simp [hz])).mono ?_
        rintro e w5 ⟨rfl, hb5⟩
        have HJ5 : Hid (Joining w w.heap.size w3.heap.size (joinTo (m + 1) xs (j + 1)) (m + 1) w5) := by
          rw [Hid, HS.out]
          simp only [joinStep, hz, if_true]
          have hJ := HJ.out
          exact ⟨(hJ.res.alloc _).below hb5 (hJ.res.alloc _).lt, (hJ.out.alloc _).below hb5 (hJ.out.alloc _).lt, (hJ.hist.alloc _).below hb5 (hJ.hist.alloc _).lt, (hJ.keep.alloc hJ.keep.size _).trans (hb5.mono (by have := hJ.keep.size; simp; omega))⟩
        clear hb5 hz
        go_wp2
        go_roundw
        case rel => exact ⟨j + 1, by omega, by go_num, HJ5⟩
        case measure => simp [intOf]; omega
      · have HZ := Lib.hid hz
        have hJ := HJ.out
        refine (add_any q a (w.heap.size + 1) (w3.heap.size + 1) w3.heap.size C (m + 1) cc _ (by omega) (hJ.out.alloc _) (hJ.hist.alloc _) ((HX.out.2.1).below ((Below.refl _ _).alloc (Nat.le_refl _) _)) HFO.out.len (by have := hB3.size; have := H43.out.lt; omega) (by have := H43.out.lt; omega) hblk (by simp [hz]) HFO.out.n0 HFO.out.n1 HFA.out.n0 HFA.out.n1
          (by have := HFO.out.s0; have := HFO.out.n1; omega) (by have := HFO.out.s1; have := HFO.out.n1; omega) (by have := HFA.out.s0; have := HFA.out.n1; omega) (by have := HFA.out.s1; have := HFA.out.n1; omega)
          (fun i hi => ⟨HFO.out.low i hi, by have := HFO.out.top i hi; have := HFO.out.n1; omega, HFA.out.low i hi, by have := HFA.out.top i hi; have := HFA.out.n1; omega⟩) (by omega)).mono ?_
        rintro e w5 ⟨rfl, hT⟩
        have HJ5 : Hid (Joining w w.heap.size w3.heap.size (joinTo (m + 1) xs (j + 1)) (m + 1) w5) := by
          rw [Hid, HS.out]
          simp only [joinStep, hz, if_false]
          exact ⟨(hJ.res.alloc _).below hT.keep (by omega), hT.hasO, hT.hasH, (hJ.keep.alloc hJ.keep.size _).trans (hT.keep.mono (by omega))⟩
        clear hT hz hJ
        go_wp2
        go_roundw
        case rel => exact ⟨j + 1, by omega, by go_num, HJ5⟩
        case measure => simp [intOf]; omega
    · have hjn : j = n := by omega
      subst hjn
      have HE : Hid (joinTo (m + 1) xs j = joinAc bs xs) := by have := joinTo_all (bs := bs) (xs := xs) (j := j) (by rw [HN.out]; omega); rw [HL.out] at this; exact this
      have hfo := HJF.out j hj
      rw [HE.out] at HJ hfo
      have HLEN := Lib.hid hfo.len; clear hfo
      go_wp2_with (first | (refine load_has rfl _ rfl (w3.heap.size + 1) rfl HJ.out.out ?_) | (refine store_has rfl _ _ rfl w.heap.size rfl rfl HJ.out.res rfl ?_))
      refine bodyPost_ret (ret_row rfl _ _ _ 29 (accC (joinAc bs xs) (some ⟨w3.heap.size, 0, none⟩) (m + 1) (m + 1)) _ rfl (HJ.out.res.row _) Try.underlying29 rfl (by exact Try.sizeAcc)) rfl ?_
      refine ⟨w3.heap.size, hB3.size, by rw [HLEN.out]; rfl, HJ.out.hist.rowFar (by have := H43.out.lt; omega) _, below_row HJ.out.keep (Nat.le_refl _) _⟩

end Go.Proofs.Ytjgjbhbpndjnnaa

namespace Go.Proofs.Ytjgjbhbpndjnnaa
open Go.RowKit

theorem one_hlen (x : It) (bs : List Int) : (oneAc x bs).h.length = bs.length + 1 := by simp [oneAc]
theorem add_start (bs : List Int) (X : Ac) (h : X.h.length = bs.length + 1) : addAc (startJ bs) X = X := by
  obtain ⟨n, s, mn, mx, f, l, hh⟩ := X
  simp only [addAc, startJ, Int.zero_add, if_true, Ac.mk.injEq, true_and]
  refine nth_ext (by simpa using h.symm) fun i hi => ?_
  have hi' : i < bs.length + 1 := by simpa using hi
  rw [nth_range_map _ _ (by simpa using hi')]
  have e : nth (List.replicate (bs.length + 1) 0) i = 0 := by simp [nth, hi']
  rw [e]; simp
theorem isum_one (n : Nat) {k : Nat} (hk : k < n) : isum ((List.replicate n 0).set k 1) = 1 := by
  have h0 : ∀ n : Nat, isum (List.replicate n 0) = 0 := fun n => by induction n with
    | zero => rfl
    | succ n ih => simp only [List.replicate_succ, isum, ih]; rfl
  induction n generalizing k with
  | zero => omega
  | succ n ih =>
    cases k with
    | zero => simp only [List.replicate_succ, List.set_cons_zero, isum, h0]; rfl
    | succ k =>
      have := ih (k := k) (by omega)
      simp only [List.replicate_succ, List.set_cons_succ, isum, this]; rfl
theorem one_fit {x : It} {bs : List Int} (hx : itemB x = true) : fitB (oneAc x bs) (bs.length + 1) = true := by
  have hk : bkt bs x.v < bs.length + 1 := by have := bkt_le bs x.v; omega
  have hr : ∀ i, i < bs.length + 1 → 0 ≤ nth ((List.replicate (bs.length + 1) 0).set (bkt bs x.v) 1) i ∧ nth ((List.replicate (bs.length + 1) 0).set (bkt bs x.v) 1) i ≤ 8192 := fun i hi => by
    by_cases e : bkt bs x.v = i
    · subst e
      have e2 : nth ((List.replicate (bs.length + 1) 0).set (bkt bs x.v) 1) (bkt bs x.v) = 1 := by simp [nth, hi]
      omega
    · have e2 : nth ((List.replicate (bs.length + 1) 0).set (bkt bs x.v) 1) i = 0 := by simp [nth, e, hi]
      omega
  have hv := itemB_iff.1 hx
  have e1 : wi (oneAc x bs).n 0 8192 = true := wi_mk (by simp only [oneAc]; omega)
  have e2 : histB (oneAc x bs) (bs.length + 1) = true := decide_eq_true ⟨by simp [oneAc], fun i hi => hr i (by simpa [oneAc] using hi), isum_one _ hk⟩
  have e3 : endsB (oneAc x bs) = true := decide_eq_true ⟨hx, hx, rfl, by simp [oneAc, beforeB]⟩
  have e4 : valsB (oneAc x bs) = true := decide_eq_true (by simp only [oneAc]; omega)
  have e5 : ¬ (oneAc x bs).n = 0 := by simp only [oneAc]; decide
  unfold fitB
  rw [e1, e2, e3, e4, if_neg e5]
  rfl
theorem start_fit (bs : List Int) : fitB (startJ bs) (bs.length + 1) = true := by
  have hr : ∀ i, i < bs.length + 1 → nth (List.replicate (bs.length + 1) 0) i = 0 := fun i hi => by simp [nth, hi]
  have h0 : ∀ n : Nat, isum (List.replicate n 0) = 0 := fun n => by induction n with
    | zero => rfl
    | succ n ih => simp only [List.replicate_succ, isum, ih]; rfl
  have e2 : histB (startJ bs) (bs.length + 1) = true := decide_eq_true ⟨by simp [startJ], fun i hi => by
    have := hr i (by simpa [startJ] using hi)
    simp only [startJ]; omega, h0 _⟩
  have e3 : zeroB (startJ bs) = true := decide_eq_true (by simp [startJ, zeroIt])
  have e1 : wi (startJ bs).n 0 8192 = true := wi_mk (by simp only [startJ]; omega)
  have e5 : (startJ bs).n = 0 := rfl
  unfold fitB
  rw [e1, e2, if_pos e5, e3]
  rfl
theorem start_hlen (bs : List Int) : (startJ bs).h.length = bs.length + 1 := by simp [startJ]
theorem one_Fit {x : It} {bs : List Int} (hx : itemB x = true) : Fit (bs.length + 1) (oneAc x bs) := by
  have := one_fit (bs := bs) hx
  exact fit_of (m := bs.length + 1) this

/-! Some items, one behind the other. -/
def ones (bs : List Int) (xs : List It) : List Ac := xs.map (oneAc · bs)
theorem ones_len (bs : List Int) (xs : List It) : (ones bs xs).length = xs.length := by simp [ones]
theorem ones_at (bs : List Int) (xs : List It) {i : Nat} (h : i < xs.length) : nthA (ones bs xs) i = oneAc (nthI xs i) bs := by
  simp [nthA, ones, nthI, h]
theorem isum_rep (n : Nat) : isum (List.replicate n 1) = n := by
  induction n with
  | zero => rfl
  | succ n ih => simp only [List.replicate_succ, isum, ih]; omega
theorem ones_ns (bs : List Int) (xs : List It) : (ones bs xs).map (·.n) = List.replicate xs.length 1 := by
  apply List.ext_getElem
  · simp [ones]
  · intro i h1 h2
    simp [ones, oneAc]
theorem ones_total (bs : List Int) (xs : List It) : totalA (ones bs xs) = xs.length := by
  unfold totalA; rw [ones_ns, isum_rep]
def foldTo (bs : List Int) (xs : List It) (j : Nat) : Ac := joinTo (bs.length + 1) (ones bs xs) j
def foldA (bs : List Int) (xs : List It) : Ac := joinAc bs (ones bs xs)
theorem foldTo_n (bs : List Int) (xs : List It) {j : Nat} (h : j ≤ xs.length) : (foldTo bs xs j).n = j := by
  unfold foldTo
  rw [joinTo_n (by rw [ones_len]; exact h), List.map_take, ones_ns, List.take_replicate, isum_rep]
  omega
theorem foldTo_zero (bs : List Int) (xs : List It) : foldTo bs xs 0 = startJ bs := rfl
theorem foldTo_succ (bs : List Int) (xs : List It) {j : Nat} (h : j < xs.length) : foldTo bs xs (j + 1) = addAc (foldTo bs xs j) (oneAc (nthI xs j) bs) := by
  unfold foldTo
  rw [joinTo_succ (by rw [ones_len]; exact h), ones_at bs xs h]
  have : ¬ (oneAc (nthI xs j) bs).n = 0 := by simp only [oneAc]; decide
  simp only [joinStep, this, if_false]
theorem foldTo_one (bs : List Int) (xs : List It) (h : 0 < xs.length) : foldTo bs xs 1 = oneAc (nthI xs 0) bs := by
  rw [foldTo_succ bs xs h, foldTo_zero, add_start]
  exact one_hlen _ _
theorem foldTo_fit (bs : List Int) (xs : List It) (hx : ∀ i, i < xs.length → itemB (nthI xs i) = true) (hn : xs.length ≤ 8192) {j : Nat} (h : j ≤ xs.length) : Fit (bs.length + 1) (foldTo bs xs j) :=
  joinTo_fit (fun i hi => by rw [ones_len] at hi; rw [ones_at bs xs hi]; exact one_Fit (hx i hi)) (by rw [ones_total]; omega) (by rw [ones_len]; exact h)
theorem foldTo_all (bs : List Int) (xs : List It) {j : Nat} (h : xs.length ≤ j) : foldTo bs xs j = foldA bs xs := joinTo_all (by rw [ones_len]; exact h)

end Go.Proofs.Ytjgjbhbpndjnnaa

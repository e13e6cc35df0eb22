/-
  Walks: session.fits, session.follows, session.together.
-/
import Derived.Test.YtgdeaddfkcokpaaSesW
import Derived.Test.YtgdeaddfkcokpaaG7g
namespace Go.Proofs.Ytgdeaddfkcokpaa
open Go.RowKit

def fitsS (bs : List Int) (s : Se) : Bool := accB s.a bs && (decide (0 < s.a.n) && (decide (s.f = s.a.f.t) && decide (s.l = s.a.l.t)))
def follB (g : Int) (s p : Se) : Bool := decide (s.a.f.s = p.a.f.s) && decide (g ≤ s.f - p.l)

set_option maxRecDepth 100000 in
set_option maxHeartbeats 1000000 in
theorem sfits_any (s : Se) (A : Option Addr) (k c : Nat) (B : Option Addr) (m d : Nat) (bs : List Int) (w : World) (hr : Ints w A k s.a.h) (hkc : k ≤ c ∧ c ≤ maxLen) (hbs : Ints w B m bs) (hm : m ≤ maxLen) :
    Calls Try.prog 60 #[.agg (sesC s A k c), .slice B m d] w fun e w' => e = .returned (.bool (fitsS bs s)) ∧ Below w.heap.size w w' := by
  have hb1 : Below w.heap.size w (w.alloc (.cells (sesC s A k c) 60)) := (Below.refl _ _).alloc (Nat.le_refl _) _
  have HAT : Hid (AccAt (w.alloc (.cells (sesC s A k c) 60)) w.heap.size 2 s.a A k c) := by
    have := (has_ses (Has.made w 60 (sesC s A k c)) (hr.below hb1) hkc).acc
    rw [Nat.zero_add] at this
    exact this
  have HB1 := Lib.hid hb1; clear hb1
  have HB := Lib.hid hbs; clear hbs
  unfold fitsS
  go_enter Try.func60, Try.ntmps60
  go_wp2_with (refine load_acc rfl _ rfl w.heap.size 2 rfl HAT.out ?_)
  refine (may_any s.a A k c B m d bs _ HAT.out.2.1 (HB.out.below HB1.out) (by omega) hm).mono ?_
  rintro e w2 ⟨rfl, hb2⟩
  have hc2 : ∀ j, w2.cell? ⟨w.heap.size, j, none⟩ = (sesC s A k c)[j]? := fun j => (hb2.cell (show w.heap.size < _ by simp)).trans ((Has.made w 60 (sesC s A k c)).cell j)
  have HB2 : Hid (Below w.heap.size w w2) := HB1.out.trans (hb2.mono (by simp))
  clear hb2 HAT
  cases h1 : accB s.a bs
  · go_wp2_with fail
    go_ret
    refine ⟨?_, HB2.out⟩
    simp [h1]
  · by_cases h2 : 0 < s.a.n
    · by_cases h3 : s.f = s.a.f.t
      · have h3b : (s.f == s.a.f.t) = true := by simpa using h3
        go_wp2_with fail
        go_ret
        refine ⟨?_, HB2.out⟩
        simp [h1, h2, h3]
        rfl
      · have h3b : (s.f == s.a.f.t) = false := by simpa using h3
        go_wp2_with fail
        go_ret
        refine ⟨?_, HB2.out⟩
        simp [h1, h2, h3]
    · go_wp2_with fail
      go_ret
      refine ⟨?_, HB2.out⟩
      have h2b : decide (0 < s.a.n) = false := decide_eq_false (by omega)
      rw [h2b]
      rfl

set_option maxRecDepth 100000 in
set_option maxHeartbeats 1000000 in
theorem sfollows_any (s p : Se) (A B : Option Addr) (k c l d : Nat) (g : Int) (w : World) (hs : -1099511627776 ≤ s.f ∧ s.f ≤ 1099511627776) (hp : -1099511627776 ≤ p.l ∧ p.l ≤ 1099511627776) :
    Calls Try.prog 61 #[.agg (sesC s A k c), .agg (sesC p B l d), .int .i64 g] w fun e w' => e = .returned (.bool (follB g s p)) ∧ Below w.heap.size w w' := by
  have hb2 : Below w.heap.size w ((w.alloc (.cells (sesC s A k c) 60)).alloc (.cells (sesC p B l d) 60)) := below_alloc ((Below.refl _ _).alloc (Nat.le_refl _) _) (Nat.le_refl _) _
  have HB2 := Lib.hid hb2; clear hb2
  unfold follB
  have c1 : ∀ j, ((w.alloc (.cells (sesC s A k c) 60)).alloc (.cells (sesC p B l d) 60)).cell? ⟨w.heap.size, j, none⟩ = (sesC s A k c)[j]? := fun j => Has.cell (t := 60) (heap_alloc2_old w _ _) j
  have c2 : ∀ j, ((w.alloc (.cells (sesC s A k c) 60)).alloc (.cells (sesC p B l d) 60)).cell? ⟨w.heap.size + 1, j, none⟩ = (sesC p B l d)[j]? := fun j => Has.cell (t := 60) (heap_alloc2_new w _ _) j
  go_enter Try.func61, Try.ntmps61
  by_cases h : s.a.f.s = p.a.f.s
  · have h' : (s.a.f.s == p.a.f.s) = true := by simpa using h
    go_wp2_with fail
    go_ret
    refine ⟨?_, HB2.out⟩
    simp [h]
  · have h' : (s.a.f.s == p.a.f.s) = false := by simpa using h
    go_wp2_with fail
    go_ret
    refine ⟨?_, HB2.out⟩
    simp [h]

set_option maxRecDepth 100000 in
set_option maxHeartbeats 2000000 in
/-- together, of parts of which there is one: as many as hang together. -/
theorem togetherS_any (A : Option Addr) (n c : Nat) (p : Ac) (ps : List Ac) (g : Int) (w : World) (hr : Accs w A n (p :: ps)) (hn : n ≤ 17592186044416) (hg : 1 ≤ g ∧ g ≤ 1073741824) (hp : p.f.t ≤ p.l.t)
    (ht : ∀ q, q ∈ p :: ps → -1099511627776 ≤ q.f.t ∧ q.f.t ≤ 1099511627776 ∧ -1099511627776 ≤ q.l.t ∧ q.l.t ≤ 1099511627776) :
    Calls Try.prog 57 #[.slice A n c, .int .i64 g] w fun e w' => e = .returned (.int .i64 (1 + tog g p.l.t ps : Nat)) ∧ Below w.heap.size w w' := by
  have hlen := hr.1
  have hpos : 0 < n := by rw [← hlen]; simp
  have HT : Hid (∀ i, i < n → -1099511627776 ≤ (nthA (p :: ps) i).f.t ∧ (nthA (p :: ps) i).f.t ≤ 1099511627776 ∧ -1099511627776 ≤ (nthA (p :: ps) i).l.t ∧ (nthA (p :: ps) i).l.t ≤ 1099511627776) := fun i hi => by
    have hi2 : i < (p :: ps).length := by omega
    have : nthA (p :: ps) i = (p :: ps)[i] := by rw [nthA, List.getD_eq_getElem?_getD, List.getElem?_eq_getElem hi2, Option.getD_some]
    rw [this]
    exact ht _ (List.getElem_mem hi2)
  have e0 : tog g p.l.t (p :: ps) = 1 + tog g p.l.t ps := by
    show (if g ≤ p.f.t - p.l.t then 0 else 1 + tog g (max p.l.t p.l.t) ps) = _
    rw [if_neg (by omega), show max p.l.t p.l.t = p.l.t by omega]
  rw [← e0]
  have hp0 := ht p (by simp)
  clear ht e0
  have h0 : nthA (p :: ps) 0 = p := rfl
  obtain ⟨b0, o0, rfl, hi0⟩ := hr.at_ hpos
  obtain ⟨B0, k0, d0, hx0⟩ := hi0 0 hpos
  rw [h0, Nat.zero_mul, Nat.add_zero] at hx0
  have hcl := hx0.1 9 (.int .i64 p.l.t) rfl
  clear hi0 h0 hx0
  have HR := Lib.hid hr; clear hr
  have HL := Lib.hid hlen; clear hlen
  generalize hxs : p :: ps = xs at HT HR HL
  clear hxs
  obtain ⟨la, hla⟩ : ∃ la, la = p.l.t := ⟨_, rfl⟩
  rw [← hla] at hcl hp0 ⊢
  clear hla hp
  go_enter Try.func57, Try.ntmps57
  go_wp2_with fail
  go_loopw [5, 15] (fun s i wr => ∃ (j : Nat) (S : Int), j ≤ n ∧ i = .int .i64 j ∧ s = .int .i64 S ∧ -1099511627776 ≤ S ∧ S ≤ 1099511627776 ∧ Hid (tog g la xs = j + tog g S (xs.drop j)) ∧ Hid (Below w.heap.size w wr)) (fun _ i _ => n - (intOf i).toNat)
  case atStart => exact ⟨0, la, Nat.zero_le _, rfl, rfl, by omega, by omega, by simp [Hid], Below.refl _ _⟩
  case round =>
    obtain ⟨j, S, hj, rfl, rfl, hS1, hS2, HS, HW⟩ := hrel
    by_cases hlt : j < n
    · obtain ⟨b, o, eA, hi⟩ := (HR.out.below HW.out).at_ (by omega)
      injection eA with eA
      injection eA with eb eo
      subst eb; subst eo
      obtain ⟨B, k, d, hx⟩ := hi j hlt
      have HD : Hid (xs.drop j = nthA xs j :: xs.drop (j + 1)) := drop_nthA (by rw [HL.out]; exact hlt)
      have hq := HT.out j hlt
      have HX := Lib.hid hx; clear hx hi
      generalize nthA xs j = a at HX HD hq
      clear hcl
      go_upto_if 26 with (first | (refine load_acc rfl _ rfl b0 (o0 + j * 13) rfl HX.out ?_) | (refine store_new rfl _ _ rfl rfl rfl rfl ?_; intro w1 hb1 hs1; have hc1 : ∀ j, w1.cell? ⟨wr.heap.size, j, none⟩ = (accC a B k d)[j]? := fun j => hs1.cell j; have HB1 : Hid (Below w.heap.size w w1) := HW.out.trans (hb1.mono HW.out.size)))
      by_cases h1 : g ≤ a.f.t - S
      · go_wp2_with fail
        go_ret
        exact ⟨ret_int (by rw [HS.out, HD.out]; simp [tog, h1]), HB1.out⟩
      · have hmx : ∃ M, max S a.l.t = M ∧ -1099511627776 ≤ M ∧ M ≤ 1099511627776 := ⟨_, rfl, by omega, by omega⟩
        obtain ⟨M, hM, m1, m2⟩ := hmx
        have HTG : Hid (tog g S (xs.drop j) = 1 + tog g M (xs.drop (j + 1))) := by rw [Hid, HD.out]; simp only [tog, if_neg h1, hM]
        go_wp2_with fail
        go_roundw
        case rel => exact ⟨j + 1, M, by omega, by go_num, by rw [← hM], m1, m2, by rw [Hid, HS.out, HTG.out]; omega, HB1.out⟩
        case measure => simp [intOf]; omega
    · have hjn : j = n := by omega
      subst hjn
      go_wp2
      go_ret
      exact ⟨ret_int (by rw [HS.out, List.drop_of_length_le (by rw [HL.out]; omega)]; simp [tog]), HW.out⟩

end Go.Proofs.Ytgdeaddfkcokpaa

/-
  Walks: window.Of.
-/
import Derived.Test.YtkbocjmdbfddhaaWMay
import Derived.Test.YtkbocjmdbfddhaaWSpan
namespace Go.Proofs.Ytkbocjmdbfddhaa
open Go.RowKit

/-- The call hands out nothing, with the layer's refusal. -/
def NoSpans (w : World) (e : Ending) (w' : World) : Prop := e = .returned (.tuple #[.slice none 0 0, .int .i64 400]) ∧ Below w.heap.size w w'
/-- The call hands out these spans, its own. -/
def OutSpans (ss : List (Int × Int)) (w : World) (e : Ending) (w' : World) : Prop :=
  ∃ A c, e = .returned (.tuple #[.slice A ss.length c, .int .i64 0]) ∧ OwnS w' w.heap.size (.slice A ss.length c) ss ∧ Below w.heap.size w w'
/-- The windows of a query that hold a time. -/
def winQ (kd sz sl t : Int) : List (Int × Int) :=
  winL ((t - sz) / stepQ kd sz sl) (stepQ kd sz sl) sz (t / stepQ kd sz sl - (t - sz) / stepQ kd sz sl).toNat

set_option maxHeartbeats 400000 in
theorem stepOf_any (kd ag sz sl rk : Int) (B : Option Addr) (m d : Nat) (w : World) :
    Calls Try.prog 43 #[.agg #[.int .i64 kd, .int .i64 ag, .int .i64 sz, .int .i64 sl, .slice B m d, .int .i64 rk]] w
      fun e w' => e = .returned (.int .i64 (stepQ kd sz sl)) ∧ Below w.heap.size w w' := by
  have hbox : ∀ o, Below w.heap.size w (w.alloc o) := fun o => (Below.refl _ _).alloc (Nat.le_refl _) o
  have HBOX := Lib.hid hbox; clear hbox
  unfold stepQ
  by_cases hk : kd = 1
  · subst hk
    rw [if_pos rfl]
    go_enter Try.func43, Try.ntmps43
    go_wp2_with fail
    go_ret
    exact ⟨rfl, HBOX.out _⟩
  · rw [if_neg hk]
    have hk2 : (kd == 1) = false := by simp [hk]
    clear hk
    go_enter Try.func43, Try.ntmps43
    go_wp2_with fail
    go_ret
    exact ⟨rfl, HBOX.out _⟩

set_option maxHeartbeats 1000000 in
theorem of_bad (kd ag sz sl rk t : Int) (B : Option Addr) (m d : Nat) (bs : List Int) (w : World) (hb : Ints w B m bs) (hm : m ≤ maxLen)
    (h : (mayQ kd ag sz sl bs rk && (decide (kd ≠ 2) && wi t (-1099511627776) 1099511627776)) = false) :
    Calls Try.prog 14 #[.agg #[.int .i64 kd, .int .i64 ag, .int .i64 sz, .int .i64 sl, .slice B m d, .int .i64 rk], .int .i64 t] w (NoSpans w) := by
  have hbox : ∀ o, Below w.heap.size w (w.alloc o) := fun o => (Below.refl _ _).alloc (Nat.le_refl _) o
  have HBOX := Lib.hid hbox; clear hbox
  have HH := Lib.hid h; clear h
  go_enter Try.func14, Try.ntmps14
  go_wp2_with fail
  refine (may4_any kd ag sz sl rk B m d bs _ (hb.below (HBOX.out _)) hm).mono ?_
  rintro e w1 ⟨rfl, b1⟩
  have hB1 : Below w.heap.size w w1 := (HBOX.out _).trans (b1.mono (by simp))
  have hc1 : ∀ b o, b < w.heap.size + 1 → w1.cell? ⟨b, o, none⟩ = _ := fun b o h => oldCells b1 (Nat.le_refl _) b o (by simpa using h)
  clear b1
  cases k1 : mayQ kd ag sz sl bs rk
  · go_wp2_with fail
    go_ret2
    exact ⟨rfl, hB1⟩
  · by_cases k2 : kd = 2
    · subst k2
      go_wp2_with fail
      go_ret2
      exact ⟨rfl, hB1⟩
    · have k3 : wi t (-1099511627776) 1099511627776 = false := by
        have := HH.out
        rw [k1, decide_eq_true k2] at this
        simpa using this
      have k2' : (kd == 2) = false := by simp [k2]
      clear k2
      go_wp2_with (go_at_call 42; refine (within_any _ _ _ _).mono ?_; rintro e w' ⟨rfl, rfl⟩)
      go_ret2
      exact ⟨rfl, hB1⟩

/-- The row of windows so far. -/
structure OfS (w : World) (a k m : Int) (n : Nat) (g : Nat) (cs : Array Value) (v : Value) (j : Nat) (wr : World) : Prop where
  own : OwnS wr (g + 1) v (winL a k m j)
  box : Has wr g 24 cs
  keep : Below w.heap.size w wr
  at_ : g = w.heap.size
  le : j ≤ n

set_option maxRecDepth 100000 in
set_option maxHeartbeats 2000000 in
theorem of_ok (kd ag sz sl rk t : Int) (B : Option Addr) (m d : Nat) (bs : List Int) (w : World) (hb : Ints w B m bs) (hm : m ≤ maxLen)
    (h1 : mayQ kd ag sz sl bs rk = true) (h2 : kd ≠ 2) (h3 : wi t (-1099511627776) 1099511627776 = true) :
    Calls Try.prog 14 #[.agg #[.int .i64 kd, .int .i64 ag, .int .i64 sz, .int .i64 sl, .slice B m d, .int .i64 rk], .int .i64 t] w (OutSpans (winQ kd sz sl t) w) := by
  have hbox : ∀ o, Below w.heap.size w (w.alloc o) := fun o => (Below.refl _ _).alloc (Nat.le_refl _) o
  have HBOX := Lib.hid hbox; clear hbox
  have HAS : Hid (∀ o : Array Value, Has (w.alloc (.cells o 24)) w.heap.size 24 o) := fun o => Has.made _ _ _
  obtain ⟨s1, s2, s3, s4, s5⟩ := stepQ_bd h1
  obtain ⟨t1, t2⟩ := wi_true h3
  have k2' : (kd == 2) = false := by simp [h2]
  clear h2
  obtain ⟨b1, b2, _, _⟩ := win_bd t (stepQ kd sz sl) sz s1 s2 s5
  have hW : winQ kd sz sl t = winL ((t - sz) / stepQ kd sz sl) (stepQ kd sz sl) sz (t / stepQ kd sz sl - (t - sz) / stepQ kd sz sl).toNat := rfl
  have HST := Lib.hid (stepOf_any kd ag sz sl rk B m d)
  have HG := Lib.hid (win_begin t (stepQ kd sz sl) sz s1)
  have D1 := div_ok (t - sz) (stepQ kd sz sl) _ (by omega) (by omega) s1 rfl
  have D2 := div_ok t (stepQ kd sz sl) _ (by omega) (by omega) s1 rfl
  have l1 := div_bd (t - sz) (stepQ kd sz sl) (by omega) (by omega) s1
  have l2 := div_bd t (stepQ kd sz sl) (by omega) (by omega) s1
  have l3 : -2199023255552 ≤ (t - sz) / stepQ kd sz sl := Int.le_ediv_of_mul_le (by omega) (by have := Int.mul_le_mul_of_nonneg_left s1 (show (0 : Int) ≤ 2199023255552 by decide); omega)
  have l4 : t / stepQ kd sz sl ≤ 2199023255552 := Int.ediv_le_of_le_mul (by omega) (by have := Int.mul_le_mul_of_nonneg_left s1 (show (0 : Int) ≤ 2199023255552 by decide); omega)
  generalize stepQ kd sz sl = k at *
  obtain ⟨n, hn⟩ : ∃ n : Nat, t / k - (t - sz) / k = (n : Int) := ⟨(t / k - (t - sz) / k).toNat, by omega⟩
  rw [hn, Int.toNat_natCast] at hW
  rw [hW]
  clear hW
  generalize (t - sz) / k = a at *
  generalize t / k = L at *
  clear l1 l2
  have HD1 := Lib.hid D1; clear D1
  have HD2 := Lib.hid D2; clear D2
  have HN := Lib.hid hn; clear hn
  go_enter Try.func14, Try.ntmps14
  go_wp2_with fail
  refine (may4_any kd ag sz sl rk B m d bs _ (hb.below (HBOX.out _)) hm).mono ?_
  rintro e w1 ⟨rfl, b3⟩
  have HB1 : Hid (Below w.heap.size w w1) := (HBOX.out _).trans (b3.mono (by simp))
  have HA1 : Hid (Has w1 w.heap.size 24 #[.int .i64 kd, .int .i64 ag, .int .i64 sz, .int .i64 sl, .slice B m d, .int .i64 rk]) := (HAS.out _).below b3 (by simp)
  have hc1 : ∀ i, w1.cell? ⟨w.heap.size, i, none⟩ = _ := fun i => HA1.out.cell i
  clear b3 HAS HBOX
  go_wp2_with (go_at_call 42; refine (within_any _ _ _ _).mono ?_; rintro e w' ⟨rfl, rfl⟩)
  refine (HST.out _).mono ?_
  rintro e w2 ⟨rfl, b3⟩
  have HB2 : Hid (Below w.heap.size w w2) := HB1.out.trans (b3.mono HB1.out.size)
  have HA2 := Lib.hid (HA1.out.below b3 HA1.out.lt)
  have hc2 : ∀ i, w2.cell? ⟨w.heap.size, i, none⟩ = _ := fun i => HA2.out.cell i
  clear b3 hc1 HB1 HA1
  go_wp2_with fail
  refine (HD1.out _).mono ?_
  rintro e w' ⟨rfl, rfl⟩
  go_wp2_with fail
  refine (HD2.out _).mono ?_
  rintro e w' ⟨rfl, rfl⟩
  go_wp2_with (refine make_span rfl _ _ rfl n rfl rfl HN.out (by have := HN.out; omega) ?_; intro v0 w3 hown hb3)
  have HS : Hid (OfS w a k sz n w.heap.size #[.int .i64 kd, .int .i64 ag, .int .i64 sz, .int .i64 sl, .slice B m d, .int .i64 rk] v0 0 w3) :=
    ⟨hown.mono HA2.out.lt, HA2.out.below hb3 HA2.out.lt, HB2.out.trans (hb3.mono HB2.out.size), rfl, Nat.zero_le _⟩
  clear hown hb3 hc2 HB2 HA2
  have hLn1 : L - a ≤ (n : Int) := by have := HN.out; omega
  have hLn2 : (n : Int) ≤ L - a := by have := HN.out; omega
  go_wp2_with fail
  go_loopw [51, 11] (fun i v wr => ∃ j : Nat, i = .int .i64 j ∧ Hid (OfS w a k sz n w.heap.size #[.int .i64 kd, .int .i64 ag, .int .i64 sz, .int .i64 sl, .slice B m d, .int .i64 rk] v j wr)) (fun i _ _ => n - (intOf i).toNat)
  case atStart => exact ⟨0, rfl, HS⟩
  case round =>
    clear HS
    obtain ⟨j, rfl, HS⟩ := hrel
    have hjn := HS.out.le
    by_cases hlt : j < n
    · obtain ⟨z, hz⟩ : ∃ z, (a + 1 + (j : Int)) * k = z := ⟨_, rfl⟩
      have hz1 : t - sz < z := by rw [← hz]; exact (HG.out (a + 1 + j)).1.1 (by omega)
      have hz2 : z ≤ t := by rw [← hz]; exact (HG.out (a + 1 + j)).2.1 (by omega)
      have hz3 : wrap64 ((a + 1 + (j : Int)) * k) = z := by rw [hz]; unfold wrap64; omega
      have HZ := Lib.hid hz; clear hz
      have hcell : ∀ o, (wr.alloc o).cell? ⟨w.heap.size, 2, none⟩ = some (.int .i64 sz) := fun o => (HS.out.box.alloc o).cell 2
      have hcell0 : wr.cell? ⟨w.heap.size, 2, none⟩ = some (.int .i64 sz) := HS.out.box.cell 2
      have hlt0 := HS.out.box.lt
      have hg8 : n ≤ 64 := by omega
      go_wp2_with (refine app_span rfl _ _ rfl rfl (HS.out.own.below ((Below.refl _ _).alloc (Nat.le_refl _) _)) rfl (Has.made _ _ _) (by rw [winL_len]; omega) (by simp; omega) ?_; intro A c wn hwn hbn)
      go_roundw
      case rel =>
        have e1 : (winL a k sz j).length + 1 = j + 1 := by rw [winL_len]
        have e2 : winL a k sz j ++ [(z, z + sz)] = winL a k sz (j + 1) := by rw [winL, HZ.out]
        rw [e2] at hwn
        have hbw : Below (w.heap.size + 1) wr wn := ((Below.refl _ _).alloc (by omega) _).trans hbn
        have hS2 : Hid (OfS w a k sz n w.heap.size #[.int .i64 kd, .int .i64 ag, .int .i64 sz, .int .i64 sl, .slice B m d, .int .i64 rk] (.slice A ((winL a k sz j).length + 1) c) (j + 1) wn) := ⟨hwn, HS.out.box.below hbw (by omega), HS.out.keep.trans (hbw.mono (by omega)), rfl, by omega⟩
        exact ⟨j + 1, by go_num, hS2⟩
      case measure => simp [intOf]; omega
    · have hj : j = n := by omega
      subst hj
      obtain ⟨A, c, rfl, _⟩ := HS.out.own.form
      go_wp2_with fail
      go_ret2
      exact ⟨A, c, rfl, HS.out.own.mono (by omega), HS.out.keep⟩

end Go.Proofs.Ytkbocjmdbfddhaa

/-
  Walks: acc.total, acc.fitTogether.
-/
import Derived.Test.YtdoflmphkalicaaRow
namespace Go.Proofs.Ytdoflmphkalicaa
open Go.RowKit

theorem isum_map_take {xs : List Ac} {j : Nat} (h : j < xs.length) : isum ((xs.take (j + 1)).map (·.n)) = isum ((xs.take j).map (·.n)) + (nthA xs j).n := by
  rw [List.map_take, List.map_take, isum_take_succ (by simpa using h)]
  simp [nth, nthA, h]

set_option maxRecDepth 100000 in
set_option maxHeartbeats 1000000 in
theorem total_any (A : Option Addr) (n c : Nat) (xs : List Ac) (w : World) (hr : Accs w A n xs) (hn : n ≤ 17592186044416) (hb : ∀ i, i < n → 0 ≤ (nthA xs i).n ∧ (nthA xs i).n ≤ 8192) :
    Calls Try.prog 63 #[.slice A n c] w fun e w' => e = .returned (.int .i64 (totalA xs)) ∧ Below w.heap.size w w' := by
  have HL := Lib.hid hr.1
  have HB := Lib.hid hb; clear hb
  have HR := Lib.hid hr; clear hr
  go_enter Try.func63, Try.ntmps63
  go_wp2
  go_loopw [3, 8] (fun s i wr => ∃ (j : Nat) (S : Int), j ≤ n ∧ i = .int .i64 j ∧ s = .int .i64 S ∧ 0 ≤ S ∧ S ≤ 8192 * j ∧ Hid (isum ((xs.take j).map (·.n)) = S) ∧ Hid (Below w.heap.size w wr)) (fun _ i _ => n - (intOf i).toNat)
  case atStart => exact ⟨0, 0, Nat.zero_le _, rfl, rfl, by omega, by omega, rfl, Below.refl _ _⟩
  case round =>
    obtain ⟨j, S, hj, rfl, rfl, hS0, hS1, HS, HW⟩ := hrel
    by_cases hlt : j < n
    · obtain ⟨b, o, rfl, hi⟩ := (HR.out.below HW.out).at_ (by omega)
      obtain ⟨B, k, d, hx⟩ := hi j hlt
      have HX := Lib.hid hx; clear hx hi
      obtain ⟨p1, p2⟩ := HB.out j hlt
      go_wp2_with (first | (refine load_acc rfl _ rfl b (o + j * 13) rfl HX.out ?_) | (refine store_made rfl _ _ rfl rfl rfl rfl ?_))
      go_roundw
      case rel => exact ⟨j + 1, S + (nthA xs j).n, by omega, by go_num, rfl, by omega, by omega, by rw [Hid, isum_map_take (by rw [HL.out]; exact hlt), HS.out], HW.out.alloc HW.out.size _⟩
      case measure => simp [intOf]; omega
    · have hjn : j = n := by omega
      subst hjn
      go_wp2
      go_ret
      exact ⟨ret_int (by rw [← HS.out, List.take_of_length_le (by rw [HL.out]; omega)]; rfl), HW.out⟩

set_option maxRecDepth 100000 in
set_option maxHeartbeats 2000000 in
theorem together_any (A : Option Addr) (n c : Nat) (xs : List Ac) (m : Int) (w : World) (hr : Accs w A n xs) (hm : 0 ≤ m ∧ m ≤ 9) (hn : n ≤ 17592186044416) :
    Calls Try.prog 62 #[.slice A n c, .int .i64 m] w fun e w' => e = .returned (.bool (togB m (-1) xs)) ∧ Below w.heap.size w w' := by
  have HL := Lib.hid hr.1
  have HR := Lib.hid hr; clear hr
  go_enter Try.func62, Try.ntmps62
  go_wp2
  go_loopw [5, 10] (fun s i wr => ∃ (j : Nat) (S : Int), j ≤ n ∧ i = .int .i64 j ∧ s = .int .i64 S ∧ Hid (togB m (-1) xs = togB m S (xs.drop j)) ∧ Hid (Below w.heap.size w wr)) (fun _ i _ => n - (intOf i).toNat)
  case atStart => exact ⟨0, -1, Nat.zero_le _, rfl, rfl, rfl, Below.refl _ _⟩
  case round =>
    obtain ⟨j, S, hj, rfl, rfl, HS, HW⟩ := hrel
    by_cases hlt : j < n
    · obtain ⟨b, o, rfl, hi⟩ := (HR.out.below HW.out).at_ (by omega)
      obtain ⟨B, k, d, hx⟩ := hi j hlt
      have HD : Hid (xs.drop j = nthA xs j :: xs.drop (j + 1)) := drop_nthA (by rw [HL.out]; exact hlt)
      have HX := Lib.hid hx; clear hx hi
      generalize nthA xs j = a at HX HD
      go_wp2_with (first | (refine load_acc rfl _ rfl b (o + j * 13) rfl HX.out ?_) | (refine store_made rfl _ _ rfl rfl rfl rfl ?_) | (refine load_has rfl _ rfl wr.heap.size rfl (Has.made _ _ _) ?_))
      refine (fits_any a B k d m _ (HX.out.2.1.below ((Below.refl _ _).alloc (Nat.le_refl _) _)) hm (by have := HX.out.2.2; omega)).mono ?_
      rintro e w2 ⟨rfl, hb2⟩
      have HW2 : Below w.heap.size w w2 := (HW.out.alloc HW.out.size _).trans (hb2.mono (by have := HW.out.size; simp; omega))
      have hc2 : ∀ b o, b < wr.heap.size + 1 → w2.cell? ⟨b, o, none⟩ = _ := oldCells hb2 (by simp)
      clear hb2
      cases h1 : fitB a m
      · go_wp2
        go_ret
        exact ⟨ret_bool (by rw [HS.out, HD.out]; simp [togB, h1]), HW2⟩
      · by_cases h2 : a.n = 0
        · have h2' : (a.n == 0) = true := by simp [h2]
          have H2 := Lib.hid h2; clear h2
          go_wp2
          go_roundw
          case rel => exact ⟨j + 1, S, by omega, by go_num, rfl, by rw [Hid, HS.out, HD.out]; simp [togB, h1, H2.out], HW2⟩
          case measure => simp [intOf]; omega
        · have h2' : (a.n == 0) = false := by simp [h2]
          have H2 := Lib.hid h2; clear h2
          by_cases h3 : 0 ≤ S
          · by_cases h4 : a.f.s = S
            · have h4' : (a.f.s != S) = false := by simp [h4]
              have H4 := Lib.hid h4; clear h4
              go_wp2
              go_roundw
              case rel => exact ⟨j + 1, a.f.s, by omega, by go_num, rfl, by rw [Hid, HS.out, HD.out]; simp [togB, h1, H2.out, H4.out], HW2⟩
              case measure => simp [intOf]; omega
            · have h4' : (a.f.s != S) = true := by simp [h4]
              have H4 := Lib.hid h4; clear h4
              go_wp2
              go_ret
              exact ⟨ret_bool (by rw [HS.out, HD.out]; simp [togB, h1, H2.out, H4.out, h3]), HW2⟩
          · go_wp2
            go_roundw
            case rel => exact ⟨j + 1, a.f.s, by omega, by go_num, rfl, by rw [Hid, HS.out, HD.out]; simp [togB, h1, H2.out, h3], HW2⟩
            case measure => simp [intOf]; omega
    · have hjn : j = n := by omega
      subst hjn
      go_wp2
      go_ret
      exact ⟨ret_bool (by rw [HS.out, List.drop_of_length_le (by rw [HL.out]; omega)]; rfl), HW.out⟩

end Go.Proofs.Ytdoflmphkalicaa

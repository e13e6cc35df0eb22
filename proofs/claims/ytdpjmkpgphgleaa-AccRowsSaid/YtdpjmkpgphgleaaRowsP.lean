/-
  Plain facts: the items of AccRows: no two at one place. No program here.
-/
import Derived.Test.YtdpjmkpgphgleaaPerm
import Derived.Test.YtdpjmkpgphgleaaTieP
namespace Go.Proofs.Ytdpjmkpgphgleaa
open Go.RowKit

def rowY (x : Int) : Int := x / 256 % 8
def rowZ (x : Int) : Int := x % 256
theorem rowY_bd (x : Int) : 0 ≤ rowY x ∧ rowY x ≤ 7 := by unfold rowY; omega
theorem rowZ_bd (x : Int) : 0 ≤ rowZ x ∧ rowZ x ≤ 255 := by unfold rowZ; omega
def rowI (vs : List Int) (i : Nat) : It := ⟨3, rowY (nth vs i) - 3, (i : Int) + 1, rowZ (nth vs i) - 100⟩
def rowX (vs : List Int) (m : Nat) : List It := (List.range m).map (rowI vs)
theorem row_len (vs : List Int) (m : Nat) : (rowX vs m).length = m := by simp [rowX]
theorem row_at (vs : List Int) {m i : Nat} (h : i < m) : nthI (rowX vs m) i = rowI vs i := by
  simp [nthI, rowX, List.getElem?_range h]
theorem row_item (vs : List Int) {i : Nat} (h : i < 20) : itemB (rowI vs i) = true := by
  have h1 := rowY_bd (nth vs i)
  have h2 := rowZ_bd (nth vs i)
  exact itemB_iff.2 (by simp only [rowI]; omega)
theorem row_mem {vs : List Int} {m : Nat} {x : It} (h : x ∈ rowX vs m) : ∃ i, i < m ∧ x = rowI vs i := by
  obtain ⟨i, hi, rfl⟩ := List.mem_map.1 h
  exact ⟨i, List.mem_range.1 hi, rfl⟩
theorem row_apart {vs : List Int} {m : Nat} : ∀ x, x ∈ rowX vs m → ∀ y, y ∈ rowX vs m → x = y ∨ Apart x y := by
  intro x hx y hy
  obtain ⟨i, _, rfl⟩ := row_mem hx
  obtain ⟨j, _, rfl⟩ := row_mem hy
  by_cases e : i = j
  · exact .inl (by rw [e])
  · exact .inr (.inr (by simp only [rowI]; omega))
/-- Items of one series, none wrong, are together, in whichever row. -/
theorem row_tog {bs : List Int} {vs : List Int} {m : Nat} (hm : m ≤ 20) (xs : List It) (hx : ∀ x, x ∈ xs → x ∈ rowX vs m) : togB (bs.length + 1) (-1) (ones bs xs) = true :=
  ones_tog (σ := 3) xs (fun i hi => by
    have hmem : nthI xs i ∈ xs := by
      have e : nthI xs i = xs[i] := by simp [nthI, hi]
      rw [e]; exact List.getElem_mem hi
    obtain ⟨k, hk, e⟩ := row_mem (hx _ hmem)
    rw [e]
    exact ⟨row_item vs (by omega), rfl⟩) (-1) (.inl rfl)
theorem row_halves {bs : List Int} (vs : List Int) (m k : Nat) : joinAc bs [joinAc bs (ones bs ((rowX vs m).drop k)), joinAc bs (ones bs ((rowX vs m).take k))] = joinAc bs (ones bs (rowX vs m)) := by
  have h := join_halves (bs := bs) ((rowX vs m).take k) ((rowX vs m).drop k) (by rw [List.take_append_drop]; exact row_apart)
  rwa [List.take_append_drop] at h
theorem row_reverse {bs : List Int} (vs : List Int) (m : Nat) : joinAc bs (ones bs (rowX vs m).reverse) = joinAc bs (ones bs (rowX vs m)) := join_reverse _ row_apart
theorem row_count {bs : List Int} (vs : List Int) (m : Nat) : (joinAc bs (ones bs (rowX vs m))).n = m := by
  have h := fold_ns (bs := bs) (rowX vs m) (startJ bs)
  rw [row_len] at h
  have h0 : (startJ bs).n = 0 := rfl
  have e : joinAc bs (ones bs (rowX vs m)) = (ones bs (rowX vs m)).foldl joinStep (startJ bs) := rfl
  rw [e, h, h0]; omega

end Go.Proofs.Ytdpjmkpgphgleaa

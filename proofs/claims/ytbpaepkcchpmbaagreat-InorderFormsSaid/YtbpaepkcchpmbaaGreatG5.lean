/-
  A slice of aggregates that reads as a list; whole aggregates loaded and stored at once.
  Walks: acc.total, acc.fitTogether.
-/
import Derived.Test.YtbpaepkcchpmbaaGreatAdd
import Derived.Deep.MidRow
namespace Go.Proofs.YtbpaepkcchpmbaaGreat
open Go.RowKit

def nthA (xs : List Ac) (i : Nat) : Ac := xs.getD i zeroAc
/-- At offset o of block b lies an aggregate: a, whose buckets are 'A, k, c'. -/
def AccAt (w : World) (b o : Nat) (a : Ac) (A : Option Addr) (k c : Nat) : Prop := w.rangeAt b o (accC a A k c).toList ∧ Ints w A k a.h ∧ k ≤ c ∧ c ≤ maxLen
/-- The slice value '.slice A n _' reads as the aggregates xs. -/
def Accs (w : World) (A : Option Addr) (n : Nat) (xs : List Ac) : Prop :=
  xs.length = n ∧ (0 < n → ∃ b o : Nat, A = some ⟨b, o, none⟩ ∧ ∀ i, i < n → ∃ B k c, AccAt w b (o + i * 13) (nthA xs i) B k c)

@[go_sem] theorem accC_0 (a : Ac) (A : Option Addr) (k c : Nat) : (accC a A k c)[0]? = some (.int .i64 a.n) := rfl
@[go_sem] theorem accC_1 (a : Ac) (A : Option Addr) (k c : Nat) : (accC a A k c)[1]? = some (.int .i64 a.s) := rfl
@[go_sem] theorem accC_2 (a : Ac) (A : Option Addr) (k c : Nat) : (accC a A k c)[2]? = some (.int .i64 a.mn) := rfl
@[go_sem] theorem accC_3 (a : Ac) (A : Option Addr) (k c : Nat) : (accC a A k c)[3]? = some (.int .i64 a.mx) := rfl
@[go_sem] theorem accC_4 (a : Ac) (A : Option Addr) (k c : Nat) : (accC a A k c)[4]? = some (.int .i64 a.f.s) := rfl
@[go_sem] theorem accC_5 (a : Ac) (A : Option Addr) (k c : Nat) : (accC a A k c)[5]? = some (.int .i64 a.f.t) := rfl
@[go_sem] theorem accC_6 (a : Ac) (A : Option Addr) (k c : Nat) : (accC a A k c)[6]? = some (.int .i64 a.f.q) := rfl
@[go_sem] theorem accC_7 (a : Ac) (A : Option Addr) (k c : Nat) : (accC a A k c)[7]? = some (.int .i64 a.f.v) := rfl
@[go_sem] theorem accC_8 (a : Ac) (A : Option Addr) (k c : Nat) : (accC a A k c)[8]? = some (.int .i64 a.l.s) := rfl
@[go_sem] theorem accC_9 (a : Ac) (A : Option Addr) (k c : Nat) : (accC a A k c)[9]? = some (.int .i64 a.l.t) := rfl
@[go_sem] theorem accC_10 (a : Ac) (A : Option Addr) (k c : Nat) : (accC a A k c)[10]? = some (.int .i64 a.l.q) := rfl
@[go_sem] theorem accC_11 (a : Ac) (A : Option Addr) (k c : Nat) : (accC a A k c)[11]? = some (.int .i64 a.l.v) := rfl
@[go_sem] theorem accC_12 (a : Ac) (A : Option Addr) (k c : Nat) : (accC a A k c)[12]? = some (.slice A k c) := rfl
theorem accC_list (a : Ac) (A : Option Addr) (k c : Nat) : (accC a A k c).toList = [.int .i64 a.n, .int .i64 a.s, .int .i64 a.mn, .int .i64 a.mx, .int .i64 a.f.s, .int .i64 a.f.t, .int .i64 a.f.q, .int .i64 a.f.v, .int .i64 a.l.s, .int .i64 a.l.t, .int .i64 a.l.q, .int .i64 a.l.v, .slice A k c] := rfl
theorem accC_len (a : Ac) (A : Option Addr) (k c : Nat) : (accC a A k c).toList.length = 13 := rfl
theorem AccAt.cell {w : World} {b o : Nat} {a : Ac} {A : Option Addr} {k c : Nat} (h : AccAt w b o a A k c) : w.cell? ⟨b, o, none⟩ = some (.int .i64 a.n) := h.1 0 _ rfl
theorem AccAt.lt {w : World} {b o : Nat} {a : Ac} {A : Option Addr} {k c : Nat} (h : AccAt w b o a A k c) : b < w.heap.size := block_lt_of_cell h.cell
theorem AccAt.keep {w w' : World} {b o : Nat} {a : Ac} {A : Option Addr} {k c : Nat} (h : AccAt w b o a A k c) (hk : ∀ p : Addr, p.block < w.heap.size → w'.cell? p = w.cell? p) : AccAt w' b o a A k c :=
  ⟨fun j v hv => (hk _ h.lt).trans (h.1 j v hv), h.2.1.keep hk, h.2.2⟩
theorem Accs.keep {w w' : World} {A : Option Addr} {n : Nat} {xs : List Ac} (h : Accs w A n xs) (hk : ∀ p : Addr, p.block < w.heap.size → w'.cell? p = w.cell? p) : Accs w' A n xs :=
  ⟨h.1, fun hn => by
    obtain ⟨b, o, e, hi⟩ := h.2 hn
    exact ⟨b, o, e, fun i hlt => by obtain ⟨B, k, c, hx⟩ := hi i hlt; exact ⟨B, k, c, hx.keep hk⟩⟩⟩
theorem Accs.below {w w' : World} {A : Option Addr} {n : Nat} {xs : List Ac} (h : Accs w A n xs) (hb : Below w.heap.size w w') : Accs w' A n xs := h.keep fun _ hp => hb.cell hp
theorem Accs.drewN {w : World} {A : Option Addr} {n : Nat} {xs : List Ac} (h : Accs w A n xs) (k : Nat) : Accs (w.drewN k) A n xs := h
theorem Accs.at_ {w : World} {A : Option Addr} {n : Nat} {xs : List Ac} (h : Accs w A n xs) (hn : 0 < n) : ∃ b o : Nat, A = some ⟨b, o, none⟩ ∧ ∀ i, i < n → ∃ B k c, AccAt w b (o + i * 13) (nthA xs i) B k c := h.2 hn
theorem Accs.nil (w : World) (A : Option Addr) : Accs w A 0 [] := ⟨rfl, fun h => absurd h (by omega)⟩
theorem drop_nthA {xs : List Ac} {j : Nat} (h : j < xs.length) : xs.drop j = nthA xs j :: xs.drop (j + 1) := by
  rw [List.drop_eq_getElem_cons h]
  simp [nthA, h]

/-- The load of a whole aggregate out of a row. -/
theorem load_acc {ops : Array Oper} {rest : List Oper} {op : Oper} {a : Act} {w : World} {Q : Exit → Act → World → Prop} (hgd : op.guard = none) (x : Operand) (ho : op.op = .load 144 x)
    (b o : Nat) (hx : a.eval x = .pointer (some ⟨b, o, none⟩)) {ac : Ac} {A : Option Addr} {k c : Nat} (hc : AccAt w b o ac A k c)
    (h : wpList Tryz.prog ops Q rest (a.put op.dst (.agg (accC ac A k c))) w) : wpList Tryz.prog ops Q (op :: rest) a w :=
  wpList_load_mid hgd 144 x ho b o hx _ _ hc.1 Tryz.underlying144 rfl Tryz.sizeAcc (by simpa using h)
/-- The load of a whole aggregate out of a variable. -/
theorem load_has {ops : Array Oper} {rest : List Oper} {op : Oper} {a : Act} {w : World} {Q : Exit → Act → World → Prop} (hgd : op.guard = none) (x : Operand) (ho : op.op = .load 144 x)
    (g : Nat) (hx : a.eval x = .pointer (some ⟨g, 0, none⟩)) {ac : Ac} {A : Option Addr} {k c : Nat} (hc : Has w g 144 (accC ac A k c))
    (h : wpList Tryz.prog ops Q rest (a.put op.dst (.agg (accC ac A k c))) w) : wpList Tryz.prog ops Q (op :: rest) a w :=
  wpList_load_row hgd 144 x ho g hx 144 _ (0, 0) _ hc Tryz.underlying144 rfl Tryz.sizeAcc h
/-- The store of a whole aggregate into a variable that was made last. -/
theorem store_made {ops : Array Oper} {rest : List Oper} {op : Oper} {a : Act} {w : World} {Q : Exit → Act → World → Prop} (hgd : op.guard = none) (x y : Operand) (ho : op.op = .store 144 x y)
    {old : Array Value} {ac : Ac} {A : Option Addr} {k c : Nat} (hx : a.eval x = .pointer (some ⟨w.heap.size, 0, none⟩)) (hy : a.eval y = .agg (accC ac A k c)) (hold : old.size = 13)
    (h : wpList Tryz.prog ops Q rest (a.put op.dst undef) (w.alloc (.cells (accC ac A k c) 144))) : wpList Tryz.prog ops Q (op :: rest) a (w.alloc (.cells old 144)) :=
  wpList_store_row hgd 144 x y ho w.heap.size _ hx hy 144 old (Has.made _ _ _) Tryz.sizeAcc hold (accC_one _ _ _ _) (by rw [World.setRow_alloc_new]; exact h)
/-- The same, of the world nothing said but what the rest needs. -/
theorem store_new {ops : Array Oper} {rest : List Oper} {op : Oper} {a : Act} {w : World} {Q : Exit → Act → World → Prop} (hgd : op.guard = none) (x y : Operand) (ho : op.op = .store 144 x y)
    {old : Array Value} {ac : Ac} {A : Option Addr} {k c : Nat} (hx : a.eval x = .pointer (some ⟨w.heap.size, 0, none⟩)) (hy : a.eval y = .agg (accC ac A k c)) (hold : old.size = 13)
    (h : ∀ w', Below w.heap.size w w' → Has w' w.heap.size 144 (accC ac A k c) → wpList Tryz.prog ops Q rest (a.put op.dst undef) w') : wpList Tryz.prog ops Q (op :: rest) a (w.alloc (.cells old 144)) :=
  store_made hgd x y ho hx hy hold (h _ ((Below.refl _ _).alloc (Nat.le_refl _) _) (Has.made _ _ _))
/-- The store of a whole aggregate into a variable. -/
theorem store_has {ops : Array Oper} {rest : List Oper} {op : Oper} {a : Act} {w : World} {Q : Exit → Act → World → Prop} (hgd : op.guard = none) (x y : Operand) (ho : op.op = .store 144 x y)
    (g : Nat) {old : Array Value} {ac : Ac} {A : Option Addr} {k c : Nat} (hx : a.eval x = .pointer (some ⟨g, 0, none⟩)) (hy : a.eval y = .agg (accC ac A k c)) (hg : Has w g 144 old) (hold : old.size = 13)
    (h : wpList Tryz.prog ops Q rest (a.put op.dst undef) (w.setRow g (accC ac A k c))) : wpList Tryz.prog ops Q (op :: rest) a w :=
  wpList_store_row hgd 144 x y ho g _ hx hy 144 old hg Tryz.sizeAcc hold (accC_one _ _ _ _) h

/-! What Join asks of its arguments, and what it gives. -/
def togB (m : Int) : Int → List Ac → Bool
  | _, [] => true
  | s, a :: r => fitB a m && if a.n = 0 then togB m s r else if 0 ≤ s ∧ a.f.s ≠ s then false else togB m a.f.s r
def totalA (xs : List Ac) : Int := isum (xs.map (·.n))
def joinStep (o a : Ac) : Ac := if a.n = 0 then o else addAc o a
def joinAc (bs : List Int) (xs : List Ac) : Ac := xs.foldl joinStep ⟨0, 0, 0, 0, zeroIt, zeroIt, List.replicate (bs.length + 1) 0⟩
end Go.Proofs.YtbpaepkcchpmbaaGreat

namespace Go.Proofs.YtbpaepkcchpmbaaGreat
open Go.RowKit

theorem isum_map_take {xs : List Ac} {j : Nat} (h : j < xs.length) : isum ((xs.take (j + 1)).map (·.n)) = isum ((xs.take j).map (·.n)) + (nthA xs j).n := by
  rw [List.map_take, List.map_take, isum_take_succ (by simpa using h)]
  simp [nth, nthA, h]

set_option maxRecDepth 100000 in
set_option maxHeartbeats 1000000 in
theorem total_any (A : Option Addr) (n c : Nat) (xs : List Ac) (w : World) (hr : Accs w A n xs) (hn : n ≤ 17592186044416) (hb : ∀ i, i < n → 0 ≤ (nthA xs i).n ∧ (nthA xs i).n ≤ 8192) :
    Calls Tryz.prog 235 #[.slice A n c] w fun e w' => e = .returned (.int .i64 (totalA xs)) ∧ Below w.heap.size w w' := by
  have HL := Lib.hid hr.1
  have HB := Lib.hid hb; clear hb
  have HR := Lib.hid hr; clear hr
  go_enter Tryz.func235, Tryz.ntmps235
  go_wp2
  go_loopw [3, 8] (fun s i wr => ∃ (j : Nat) (S : Int), j ≤ n ∧ i = .int .i64 j ∧ s = .int .i64 S ∧ 0 ≤ S ∧ S ≤ 8192 * j ∧ Hid (isum ((xs.take j).map (·.n)) = S) ∧ Hid (Below w.heap.size w wr)) (fun _ i _ => n - (intOf i).toNat)
  case atStart => exact ⟨0, 0, Nat.zero_le _, rfl, rfl, by omega, by omega, rfl, Below.refl _ _⟩
  case round =>
    obtain ⟨j, S, hj, rfl, rfl, hS0, hS1, HS, HW⟩ := hrel
    by_cases hlt : j < n
    · obtain ⟨b, o, rfl, hi⟩ := (HR.out.below HW.out).at_ (by omega)
      obtain ⟨B, k, d, hx⟩ := hi j hlt
      have HX := Lib.hid hx; clear hx hi
      obtain ⟨p1, p2⟩ := HB.out j hlt
      go_wp2_with (first | (refine load_acc rfl _ rfl b (o + j * 13) rfl HX.out ?_) | (refine store_made rfl _ _ rfl rfl rfl rfl ?_))
      go_roundw
      case rel => exact ⟨j + 1, S + (nthA xs j).n, by omega, by go_num, rfl, by omega, by omega, by rw [Hid, isum_map_take (by rw [HL.out]; exact hlt), HS.out], HW.out.alloc HW.out.size _⟩
      case measure => simp [intOf]; omega
    · have hjn : j = n := by omega
      subst hjn
      go_wp2
      go_ret
      exact ⟨ret_int (by rw [← HS.out, List.take_of_length_le (by rw [HL.out]; omega)]; rfl), HW.out⟩

set_option maxRecDepth 100000 in
set_option maxHeartbeats 2000000 in
theorem together_any (A : Option Addr) (n c : Nat) (xs : List Ac) (m : Int) (w : World) (hr : Accs w A n xs) (hm : 0 ≤ m ∧ m ≤ 9) (hn : n ≤ 17592186044416) :
    Calls Tryz.prog 234 #[.slice A n c, .int .i64 m] w fun e w' => e = .returned (.bool (togB m (-1) xs)) ∧ Below w.heap.size w w' := by
  have HL := Lib.hid hr.1
  have HR := Lib.hid hr; clear hr
  go_enter Tryz.func234, Tryz.ntmps234
  go_wp2
  go_loopw [5, 10] (fun s i wr => ∃ (j : Nat) (S : Int), j ≤ n ∧ i = .int .i64 j ∧ s = .int .i64 S ∧ Hid (togB m (-1) xs = togB m S (xs.drop j)) ∧ Hid (Below w.heap.size w wr)) (fun _ i _ => n - (intOf i).toNat)
  case atStart => exact ⟨0, -1, Nat.zero_le _, rfl, rfl, rfl, Below.refl _ _⟩
  case round =>
    obtain ⟨j, S, hj, rfl, rfl, HS, HW⟩ := hrel
    by_cases hlt : j < n
    · obtain ⟨b, o, rfl, hi⟩ := (HR.out.below HW.out).at_ (by omega)
      obtain ⟨B, k, d, hx⟩ := hi j hlt
      have HD : Hid (xs.drop j = nthA xs j :: xs.drop (j + 1)) := drop_nthA (by rw [HL.out]; exact hlt)
      have HX := Lib.hid hx; clear hx hi
      generalize nthA xs j = a at HX HD
      go_wp2_with (first | (refine load_acc rfl _ rfl b (o + j * 13) rfl HX.out ?_) | (refine store_made rfl _ _ rfl rfl rfl rfl ?_) | (refine load_has rfl _ rfl wr.heap.size rfl (Has.made _ _ _) ?_))
      refine (fits_any a B k d m _ (HX.out.2.1.below ((Below.refl _ _).alloc (Nat.le_refl _) _)) hm (by have := HX.out.2.2; omega)).mono ?_
      rintro e w2 ⟨rfl, hb2⟩
      have HW2 : Below w.heap.size w w2 := (HW.out.alloc HW.out.size _).trans (hb2.mono (by have := HW.out.size; simp; omega))
      have hc2 : ∀ b o, b < wr.heap.size + 1 → w2.cell? ⟨b, o, none⟩ = _ := oldCells hb2 (by simp)
      clear hb2
      cases h1 : fitB a m
      · go_wp2
        go_ret
        exact ⟨ret_bool (by rw [HS.out, HD.out]; simp [togB, h1]), HW2⟩
      · by_cases h2 : a.n = 0
        · have h2' : (a.n == 0) = true := by simp [h2]
          have H2 := Lib.hid h2; clear h2
          go_wp2
          go_roundw
          case rel => exact ⟨j + 1, S, by omega, by go_num, rfl, by rw [Hid, HS.out, HD.out]; simp [togB, h1, H2.out], HW2⟩
          case measure => simp [intOf]; omega
        · have h2' : (a.n == 0) = false := by simp [h2]
          have H2 := Lib.hid h2; clear h2
          by_cases h3 : 0 ≤ S
          · by_cases h4 : a.f.s = S
            · have h4' : (a.f.s != S) = false := by simp [h4]
              have H4 := Lib.hid h4; clear h4
              go_wp2
              go_roundw
              case rel => exact ⟨j + 1, a.f.s, by omega, by go_num, rfl, by rw [Hid, HS.out, HD.out]; simp [togB, h1, H2.out, H4.out], HW2⟩
              case measure => simp [intOf]; omega
            · have h4' : (a.f.s != S) = true := by simp [h4]
              have H4 := Lib.hid h4; clear h4
              go_wp2
              go_ret
              exact ⟨ret_bool (by rw [HS.out, HD.out]; simp [togB, h1, H2.out, H4.out, h3]), HW2⟩
          · go_wp2
            go_roundw
            case rel => exact ⟨j + 1, a.f.s, by omega, by go_num, rfl, by rw [Hid, HS.out, HD.out]; simp [togB, h1, H2.out, h3], HW2⟩
            case measure => simp [intOf]; omega
    · have hjn : j = n := by omega
      subst hjn
      go_wp2
      go_ret
      exact ⟨ret_bool (by rw [HS.out, List.drop_of_length_le (by rw [HL.out]; omega)]; rfl), HW.out⟩

end Go.Proofs.YtbpaepkcchpmbaaGreat

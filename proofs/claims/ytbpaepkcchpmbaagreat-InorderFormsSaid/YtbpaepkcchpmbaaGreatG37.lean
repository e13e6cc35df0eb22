import Derived.Test.YtbpaepkcchpmbaaGreatG36
import Derived.Test.YtbpaepkcchpmbaaGreatG0
import Derived.Test.YtbpaepkcchpmbaaGreatG16
import Derived.Test.YtbpaepkcchpmbaaGreatG7
import Derived.Test.YtbpaepkcchpmbaaGreatProg
import Derived.OwnWalk
import Derived.Lib.Hide
import Derived.Deep.MidRow
import Derived.BigQuiet
import Derived.Deep.QuietTactic
import Derived.Laws.Rows
import Derived.Laws.Tables
import Derived.Deep.WholeRow
namespace Go.Proofs.YtbpaepkcchpmbaaGreat
open Go.RowKit
def lateF (g : Nat) : Value := .func (.func 104) #[.pointer (some ⟨g, 0, none⟩)] #[]
section
variable {g n c : Nat} {t : TypeId} {cs : Array Value} {A : Option Addr} {late mark seq : Int} {w : World}
set_option maxRecDepth 100000 in
set_option maxHeartbeats 1000000 in
theorem fidx_any (hw : Has w g t cs) (h : FrC cs A n c late mark seq) (X : Option Addr) (m cx : Nat) (xs : List It) (hx : Items w X m xs) (hm : m ≤ 8192) :
    Calls Tryz.prog 134 #[.slice X m cx, lateF g] w fun e w' => ∃ r : Int, e = .returned (.int .i64 r) ∧ (0 ≤ r ↔ (xs.any fun x => decide (x.t < lineN mark late)) = true) ∧ Below w.heap.size w w' := by
  have HX := Lib.hid hx
  have HL : Hid (xs.length = m) := hx.1
  have HF : Hid (∀ w', Below w.heap.size w w' → ∀ x, Calls Tryz.prog 104 #[.pointer (some ⟨g, 0, none⟩), itV x] w' fun e w2 => e = .returned (.bool (decide (x.t < lineN mark late))) ∧ Below w'.heap.size w' w2) := fun w' hb x => flate_any (hw.below hb hw.lt) h x
  clear hx hw h
  generalize lineN mark late = N at HF ⊢
  unfold lateF
  go_enter Tryz.func134, Tryz.ntmps134
  go_wp2_with fail
  go_loopw [8] (fun i wr => ∃ j : Nat, j ≤ m ∧ i = .int .i64 j ∧ Hid (∀ k, k < j → N ≤ (nthI xs k).t) ∧ Hid (Below w.heap.size w wr)) (fun i _ => m - (intOf i).toNat)
  case atStart => exact ⟨0, Nat.zero_le _, rfl, (fun k h => by omega), Below.refl _ _⟩
  case round =>
    obtain ⟨j, hj, rfl, HN, HW⟩ := hrel
    by_cases hjm : j = m
    · subst hjm
      go_wp2_with fail
      go_ret
      refine ⟨_, rfl, ⟨fun h => absurd h (by omega), fun h => ?_⟩, HW.out⟩
      obtain ⟨x, hx, hd⟩ := List.any_eq_true.1 h
      have hd := of_decide_eq_true hd
      obtain ⟨k, hk, rfl⟩ := List.getElem_of_mem hx
      have := HN.out k (by rw [← HL.out]; exact hk)
      rw [show nthI xs k = xs[k] by simp [nthI, hk]] at this
      omega
    · have hjl : j < m := by omega
      obtain ⟨b, o, rfl, hi⟩ := (HX.out.below HW.out).2 (by omega)
      have HI0 := Lib.hid (hi j (by omega))
      clear hi
      by_cases hlt : (nthI xs j).t < N
      · have HC : Hid (Calls Tryz.prog 104 #[.pointer (some ⟨g, 0, none⟩), itV (nthI xs j)] wr fun e w2 => e = .returned (.bool true) ∧ Below wr.heap.size wr w2) := by
          have := HF.out wr HW.out (nthI xs j)
          rwa [decide_eq_true hlt] at this
        have HA : Hid ((xs.any fun x => decide (x.t < N)) = true) := List.any_eq_true.2 ⟨nthI xs j, by rw [show nthI xs j = xs[j]'(by rw [HL.out]; exact hjl) by simp [nthI, HL.out, hjl]]; exact List.getElem_mem _, by simpa using hlt⟩
        go_wp2_with (first | (refine load_item rfl _ rfl b (o + j * 4) (by simp [go_sem]) HI0.out ?_))
        refine HC.out.mono ?_
        rintro e w2 ⟨rfl, hb2⟩
        have HW2 := Lib.hid (HW.out.trans (hb2.mono HW.out.size))
        clear hb2
        go_wp2_with fail
        go_ret
        exact ⟨_, rfl, ⟨fun _ => HA.out, fun _ => by omega⟩, HW2.out⟩
      · have HC : Hid (Calls Tryz.prog 104 #[.pointer (some ⟨g, 0, none⟩), itV (nthI xs j)] wr fun e w2 => e = .returned (.bool false) ∧ Below wr.heap.size wr w2) := by
          have := HF.out wr HW.out (nthI xs j)
          rwa [decide_eq_false hlt] at this
        have HN2 : Hid (∀ k, k < j + 1 → N ≤ (nthI xs k).t) := fun k hk => by
          rcases Nat.lt_or_ge k j with h | h
          · exact HN.out k h
          · obtain rfl : k = j := by omega
            omega
        go_wp2_with (first | (refine load_item rfl _ rfl b (o + j * 4) (by simp [go_sem]) HI0.out ?_))
        refine HC.out.mono ?_
        rintro e w2 ⟨rfl, hb2⟩
        have HW2 := Lib.hid (HW.out.trans (hb2.mono HW.out.size))
        clear hb2
        go_wp2_with fail
        go_roundw
        case rel => exact ⟨j + 1, by omega, by go_num, HN2, HW2⟩
        case measure => simp [intOf]; omega
set_option maxRecDepth 100000 in
set_option maxHeartbeats 400000 in
theorem fcont_any (hw : Has w g t cs) (h : FrC cs A n c late mark seq) (X : Option Addr) (m cx : Nat) (xs : List It) (hx : Items w X m xs) (hm : m ≤ 8192) :
    Calls Tryz.prog 103 #[.slice X m cx, lateF g] w fun e w' => e = .returned (.bool (xs.any fun x => decide (x.t < lineN mark late))) ∧ Below w.heap.size w w' := by
  have HC := Lib.hid (fidx_any hw h X m cx xs hx hm)
  clear hw h hx
  generalize lateF g = F at HC ⊢
  generalize (xs.any fun x => decide (x.t < lineN mark late)) = B at HC ⊢
  go_enter Tryz.func103, Tryz.ntmps103
  go_wp2_with fail
  refine HC.out.mono ?_
  rintro e w2 ⟨r, rfl, hr, hb⟩
  cases B with
  | true =>
    have h0 := hr.2 rfl
    clear hr
    go_wp2_with fail
    go_ret
    exact ⟨rfl, hb⟩
  | false =>
    have h0 : ¬ 0 ≤ r := fun h => by have := hr.1 h; cases this
    clear hr
    go_wp2_with fail
    go_ret
    exact ⟨by rw [show (Value.bool false) = Value.bool (decide (0 ≤ r)) by rw [decide_eq_false (by omega)]]; rfl, hb⟩
def OutAd (B : Bool) (w : World) (g : Nat) (s : Int) (e : Ending) (w' : World) : Prop :=
  match B with
  | true => e = .returned (.int .i64 1801) ∧ Below w.heap.size w w'
  | false => e = .returned (.int .i64 0) ∧ ∃ w1, Below w.heap.size w w1 ∧ w' = w1.setCell ⟨g, 5, none⟩ (.int .i64 s)
set_option maxRecDepth 100000 in
set_option maxHeartbeats 1000000 in
theorem fadm_ok (hw : Has w g t cs) (h : FrC cs A n c late mark seq) (held : Int) (hh : 0 ≤ held ∧ held ≤ 8192) (X : Option Addr) (m cx : Nat) (xs : List It) (hx : Items w X m xs) (hm : (m : Int) ≤ 8192 - held) (hu : upS seq xs = true) :
    Calls Tryz.prog 70 #[.pointer (some ⟨g, 0, none⟩), .int .i64 held, .slice X m cx] w (OutAd (xs.any fun x => decide (x.t < lineN mark late)) w g (topS seq xs)) := by
  have e1 : IntKind.i64.wrap (8192 - held) = 8192 - held := IntWalk.i64_in _ (by omega)
  have c5 : w.cell? ⟨g, 5, none⟩ = some (.int .i64 seq) := (hw.cell 5).trans h.f5
  have C1 : Hid (∀ w', Below w.heap.size w w' → w'.cell? ⟨g, 1, none⟩ = some (.int .i64 1801)) := fun w' hb => ((hw.below hb hw.lt).cell 1).trans h.f1
  have C5 : Hid (∀ w', Below w.heap.size w w' → w'.cell? ⟨g, 5, none⟩ = some (.int .i64 seq)) := fun w' hb => ((hw.below hb hw.lt).cell 5).trans h.f5
  have F5 : Hid (∀ w', Below w.heap.size w w' → w'.frozen? ⟨g, 5, none⟩ = false) := fun w' hb => (hw.below hb hw.lt).mark _
  have HX := Lib.hid hx
  have HL : Hid (xs.length = m) := hx.1
  have HU : Hid (∀ j, j < m → itemB (nthI xs j) = true ∧ topS seq (xs.take j) < (nthI xs j).q) := fun j hj => upS_at hu (by rw [hx.1]; exact hj)
  have HK : Hid (∀ w', Below w.heap.size w w' → Calls Tryz.prog 103 #[.slice X m cx, lateF g] w' fun e w2 => e = .returned (.bool (xs.any fun x => decide (x.t < lineN mark late))) ∧ Below w'.heap.size w' w2) := fun w' hb => fcont_any (hw.below hb hw.lt) h X m cx xs (hx.below hb) (by omega)
  unfold lateF at HK
  clear hx hw h hu
  generalize (xs.any fun x => decide (x.t < lineN mark late)) = B at HK ⊢
  go_enter Tryz.func70, Tryz.ntmps70
  go_wp2_with fail
  go_loopw [7, 26] (fun sq i wr => ∃ j : Nat, j ≤ m ∧ i = .int .i64 j ∧ sq = .int .i64 (topS seq (xs.take j)) ∧ Hid (Below w.heap.size w wr)) (fun _ i _ => m - (intOf i).toNat)
  case atStart => exact ⟨0, Nat.zero_le _, rfl, rfl, Below.refl _ _⟩
  case round =>
    obtain ⟨j, hj, rfl, rfl, HW⟩ := hrel
    by_cases hjm : j = m
    · subst hjm
      have HS : Hid (topS seq (xs.take j) = topS seq xs) := by rw [← HL.out, List.take_length]; rfl
      have HC := Lib.hid (HK.out wr HW.out)
      cases B with
      | true =>
        go_wp2_with fail
        refine HC.out.mono ?_
        rintro e w2 ⟨rfl, hb2⟩
        have HW2 := Lib.hid (HW.out.trans (hb2.mono HW.out.size))
        have d1 := C1.out _ HW2.out
        clear hb2
        go_wp2_with fail
        go_ret
        exact ⟨rfl, HW2.out⟩
      | false =>
        go_wp2_with fail
        refine HC.out.mono ?_
        rintro e w2 ⟨rfl, hb2⟩
        have HW2 := Lib.hid (HW.out.trans (hb2.mono HW.out.size))
        have d5 := C5.out _ HW2.out
        have f5 := F5.out _ HW2.out
        clear hb2
        go_wp2_with fail
        go_ret
        exact ⟨rfl, _, HW2.out, by rw [HS.out]⟩
    · have hjl : j < m := by omega
      obtain ⟨b, o, rfl, hi⟩ := (HX.out.below HW.out).2 (by omega)
      have HI0 := Lib.hid (hi j (by omega))
      clear hi
      have HAL : Hid (∀ o, Below wr.heap.size wr (wr.alloc o)) := fun o => (Below.refl _ _).alloc (Nat.le_refl _) o
      obtain ⟨hbx, hlt⟩ := HU.out j hjl
      have HI : Hid (∀ w', Calls Tryz.prog 102 #[itV (nthI xs j)] w' fun e w2 => e = .returned (.bool true) ∧ Below w'.heap.size w' w2) := fun w' => by rw [← hbx]; exact item_any _ _
      have HT : Hid (topS seq (xs.take (j + 1)) = (nthI xs j).q) := topS_on seq (by rw [HL.out]; omega)
      clear hbx
      generalize nthI xs j = x at HI0 HI hlt HT
      generalize topS seq (xs.take j) = sq at hlt ⊢
      go_wp2_with (first | (refine load_item rfl _ rfl b (o + j * 4) (by simp [go_sem]) HI0.out ?_) | (refine store_hasIt rfl _ _ rfl wr.heap.size (z := x) rfl rfl (Has.made _ _ _) rfl ?_; rw [World.setRow_alloc_new]) | (refine load_hasIt rfl _ rfl wr.heap.size rfl (Has.made _ _ _) ?_))
      refine (HI.out _).mono ?_
      rintro e w2 ⟨rfl, hb2⟩
      have HW2 := Lib.hid (HW.out.trans (((HAL.out _).trans (hb2.mono (by simp))).mono HW.out.size))
      have k2 : w2.cell? ⟨wr.heap.size, 2, none⟩ = some (.int .i64 x.q) := (((Has.made wr 61 (itA x)).below hb2 (by simp)).cell 2).trans rfl
      clear hb2
      have hlt2 : ¬ x.q ≤ sq := by omega
      go_wp2_with fail
      go_roundw
      case rel => exact ⟨j + 1, by omega, by go_num, by rw [HT.out], HW2⟩
      case measure => simp [intOf]; omega
end
end Go.Proofs.YtbpaepkcchpmbaaGreat
namespace Go.Proofs.YtbpaepkcchpmbaaGreat
def nthQ (qs : List Qu) (i : Nat) : Qu := qs.getD i ⟨0, 0, 0, 0, [], 0⟩
def quB (q : Qu) : Bool := mayQ q.kind q.agg q.size q.slide q.bs q.rank
def allQ (qs : List Qu) : Bool := decide (∀ i, i < qs.length → quB (nthQ qs i) = true)
theorem allQ_yes {qs : List Qu} (h : ∀ i, i < qs.length → quB (nthQ qs i) = true) : allQ qs = true := decide_eq_true h
theorem allQ_no {qs : List Qu} {i : Nat} (h : i < qs.length) (h2 : quB (nthQ qs i) = false) : allQ qs = false := decide_eq_false fun k => by have := k i h; rw [h2] at this; cases this
def fitQ (qs : List Qu) : Bool := wi qs.length 1 8 && allQ qs
def limB (la ro se so : Int) : Bool := wi la 0 1073741824 && (wi ro 1 4096 && (wi se 1 64 && wi so 1 8))
def cfB (qs : List Qu) (la ro se so : Int) : Bool := limB la ro se so && fitQ qs
theorem limB_true {la ro se so : Int} (h : limB la ro se so = true) : (0 ≤ la ∧ la ≤ 1073741824) ∧ (1 ≤ ro ∧ ro ≤ 4096) ∧ (1 ≤ se ∧ se ≤ 64) ∧ (1 ≤ so ∧ so ≤ 8) := by
  unfold limB at h
  simp only [Bool.and_eq_true] at h
  exact ⟨wi_true h.1, wi_true h.2.1, wi_true h.2.2.1, wi_true h.2.2.2⟩
theorem limB_no {la ro se so : Int} (h : la < 0 ∨ 1073741824 < la ∨ ro < 1 ∨ 4096 < ro ∨ se < 1 ∨ 64 < se ∨ so < 1 ∨ 8 < so) : limB la ro se so = false := by
  cases k : limB la ro se so with
  | false => rfl
  | true => have := limB_true k; omega
def restB (so se ti va : Int) : Bool := wi so 0 7 && (wi se 0 1048575 && (wi ti (-1099511627776) 1099511627776 && wi va (-1099511627776) 1099511627776))
def smB (kd so se ti va n : Int) : Bool := decide (kd = 0) && (restB so se ti va && decide (so < n))
def isB (qs : List Qu) (la ro se so least held known : Int) : Bool := cfB qs la ro se so && (wi least (-4398046511104) 4398046511104 && (decide (0 ≤ held) && decide (0 ≤ known)))
def tellV (la ro se so least held known : Int) (has : Bool) (kd os oe ti va : Int) : Int :=
  if smB kd os oe ti va so = false then 4 else if ti < least - la then 1 else if has = false ∧ se ≤ known then 3 else if ro ≤ held then 2 else 0
def verV (qs : List Qu) (la ro se so least held known : Int) (has : Bool) (kd os oe ti va : Int) : Int × Int :=
  if isB qs la ro se so least held known = true then (tellV la ro se so least held known has kd os oe ti va, 0) else (0, 1400)
end Go.Proofs.YtbpaepkcchpmbaaGreat
namespace Go.Proofs.YtbpaepkcchpmbaaGreat
open Go.RowKit
set_option maxRecDepth 100000 in
set_option maxHeartbeats 1000000 in
theorem sameInts_true (A B : Option Addr) (n c d : Nat) (xs : List Int) (w : World) (ha : Ints w A n xs) (hb : Ints w B n xs) (hn : n ≤ maxLen) :
    Calls Tryz.prog 61 #[.slice A n c, .slice B n d] w fun e w' => e = .returned (.bool true) ∧ ∃ k, w' = w.drewN k := by
  unfold maxLen at hn
  go_enter Tryz.func61, Tryz.ntmps61
  go_wp2
  go_loopw [5] (fun i wr => ∃ j : Nat, j ≤ n ∧ i = .int .i64 j ∧ ∃ m, wr = w.drewN m) (fun i _ => n - (intOf i).toNat)
  case atStart => exact ⟨0, Nat.zero_le _, rfl, 0, rfl⟩
  case round =>
    obtain ⟨j, hj, rfl, m, rfl⟩ := hrel
    by_cases hlt : j < n
    · obtain ⟨b1, o1, rfl, hc1⟩ := ha.at_ (k := 0) (by omega)
      obtain ⟨b2, o2, rfl, hc2⟩ := hb.at_ (k := 0) (by omega)
      have hx := hc1 j hlt
      have hy := hc2 j hlt
      clear hc1 hc2
      have hlt2 : (j : Int) < (n : Int) := by omega
      go_wp2
      go_quiet (fail)
      go_wp2
      go_roundw
      case rel => exact ⟨j + 1, by omega, by go_num, m + nq, by first | rfl | rw [World.drewN_drewN]⟩
      case measure => simp [intOf]; omega
    · go_wp2
      go_ret
      exact ⟨rfl, m, rfl⟩
end Go.Proofs.YtbpaepkcchpmbaaGreat
namespace Go.Proofs.YtbpaepkcchpmbaaGreat
open Go.RowKit
theorem Tryz.qsize : (Tryz.prog.info? 59).map (·.size) = some 6 := by kernel_rfl
theorem Tryz.csize : (Tryz.prog.info? 24).map (·.size) = some 5 := by kernel_rfl
theorem quC_6 (q : Qu) (B : Option Addr) (m d : Nat) : (quC q B m d).toList.length = 6 := rfl
theorem quC_one (q : Qu) (B : Option Addr) (m d : Nat) : (quC q B m d).all Value.oneCell' = true := by simp [quC, Value.oneCell']
@[go_sem] theorem quC_0 (q : Qu) (B : Option Addr) (m d : Nat) : (quC q B m d)[0]? = some (.int .i64 q.kind) := rfl
@[go_sem] theorem quC_1 (q : Qu) (B : Option Addr) (m d : Nat) : (quC q B m d)[1]? = some (.int .i64 q.agg) := rfl
@[go_sem] theorem quC_2 (q : Qu) (B : Option Addr) (m d : Nat) : (quC q B m d)[2]? = some (.int .i64 q.size) := rfl
@[go_sem] theorem quC_3 (q : Qu) (B : Option Addr) (m d : Nat) : (quC q B m d)[3]? = some (.int .i64 q.slide) := rfl
@[go_sem] theorem quC_4 (q : Qu) (B : Option Addr) (m d : Nat) : (quC q B m d)[4]? = some (.slice B m d) := rfl
@[go_sem] theorem quC_5 (q : Qu) (B : Option Addr) (m d : Nat) : (quC q B m d)[5]? = some (.int .i64 q.rank) := rfl
def QuAt (w : World) (b o : Nat) (q : Qu) (B : Option Addr) (m d : Nat) : Prop := w.rangeAt b o (quC q B m d).toList ∧ Ints w B m q.bs ∧ m ≤ maxLen
def Qus (w : World) (A : Option Addr) (n : Nat) (qs : List Qu) : Prop :=
  qs.length = n ∧ (0 < n → ∃ b o : Nat, A = some ⟨b, o, none⟩ ∧ ∀ i, i < n → ∃ B m d, QuAt w b (o + i * 6) (nthQ qs i) B m d)
section
variable {w w' : World}
theorem QuAt.lt {b o : Nat} {q : Qu} {B : Option Addr} {m d : Nat} (h : QuAt w b o q B m d) : b < w.heap.size := block_lt_of_cell (h.1 0 _ rfl)
theorem QuAt.below {b o : Nat} {q : Qu} {B : Option Addr} {m d : Nat} (h : QuAt w b o q B m d) (hb : Below w.heap.size w w') : QuAt w' b o q B m d :=
  ⟨fun j v hv => (hb.cell h.lt).trans (h.1 j v hv), h.2.1.below hb, h.2.2⟩
theorem Qus.below {A : Option Addr} {n : Nat} {qs : List Qu} (h : Qus w A n qs) (hb : Below w.heap.size w w') : Qus w' A n qs :=
  ⟨h.1, fun hn => by
    obtain ⟨b, o, e, hi⟩ := h.2 hn
    exact ⟨b, o, e, fun i hlt => by obtain ⟨B, m, d, hx⟩ := hi i hlt; exact ⟨B, m, d, hx.below hb⟩⟩⟩
theorem Qus.nil (w : World) (A : Option Addr) : Qus w A 0 [] := ⟨rfl, fun h => absurd h (by omega)⟩
end
def QusR (w : World) (A : Option Addr) (n : Nat) (qs : List Qu) : Prop :=
  qs.length = n ∧ (0 < n → ∃ b o : Nat, A = some ⟨b, o, none⟩ ∧ ∀ i, i < n → ∃ B m d, QuAt w b (o + i * 6) (nthQ qs i) B m d ∧ (B = none → d = 0) ∧ m * 8 ≤ 140737488351232)
theorem QusR.qus {w : World} {A : Option Addr} {n : Nat} {qs : List Qu} (h : QusR w A n qs) : Qus w A n qs :=
  ⟨h.1, fun hn => by
    obtain ⟨b, o, e, hi⟩ := h.2 hn
    exact ⟨b, o, e, fun i hlt => by obtain ⟨B, m, d, hx, _⟩ := hi i hlt; exact ⟨B, m, d, hx⟩⟩⟩
theorem QusR.below {w w' : World} {A : Option Addr} {n : Nat} {qs : List Qu} (h : QusR w A n qs) (hb : Below w.heap.size w w') : QusR w' A n qs :=
  ⟨h.1, fun hn => by
    obtain ⟨b, o, e, hi⟩ := h.2 hn
    exact ⟨b, o, e, fun i hlt => by obtain ⟨B, m, d, hx, hy⟩ := hi i hlt; exact ⟨B, m, d, hx.below hb, hy⟩⟩⟩
section
variable {ops : Array Oper} {rest : List Oper} {op : Oper} {a : Act} {w : World} {Q : Exit → Act → World → Prop}
theorem load_qu (hgd : op.guard = none) (x : Operand) (ho : op.op = .load 59 x) (b o : Nat) (hx : a.eval x = .pointer (some ⟨b, o, none⟩)) {q : Qu} {B : Option Addr} {m d : Nat} (hc : QuAt w b o q B m d)
    (h : wpList Tryz.prog ops Q rest (a.put op.dst (.agg (quC q B m d))) w) : wpList Tryz.prog ops Q (op :: rest) a w :=
  wpList_load_mid hgd 59 x ho b o hx _ _ hc.1 Tryz.underlying59 rfl Tryz.qsize (by simpa using h)
theorem load_quV (hgd : op.guard = none) (x : Operand) (ho : op.op = .load 59 x) (g : Nat) (hx : a.eval x = .pointer (some ⟨g, 0, none⟩)) {q : Qu} {B : Option Addr} {m d : Nat} (hc : Has w g 59 (quC q B m d))
    (h : wpList Tryz.prog ops Q rest (a.put op.dst (.agg (quC q B m d))) w) : wpList Tryz.prog ops Q (op :: rest) a w :=
  wpList_load_row hgd 59 x ho g hx 59 _ (0, 0) _ hc Tryz.underlying59 rfl Tryz.qsize h
theorem store_quN (hgd : op.guard = none) (x y : Operand) (ho : op.op = .store 59 x y)
    {old : Array Value} {q : Qu} {B : Option Addr} {m d : Nat} (hx : a.eval x = .pointer (some ⟨w.heap.size, 0, none⟩)) (hy : a.eval y = .agg (quC q B m d)) (hold : old.size = 6)
    (h : ∀ w', Below w.heap.size w w' → w.heap.size < w'.heap.size → Has w' w.heap.size 59 (quC q B m d) → wpList Tryz.prog ops Q rest (a.put op.dst undef) w') : wpList Tryz.prog ops Q (op :: rest) a (w.alloc (.cells old 59)) :=
  wpList_store_row hgd 59 x y ho w.heap.size _ hx hy 59 old (Has.made _ _ _) Tryz.qsize hold (quC_one _ _ _ _) (by rw [World.setRow_alloc_new]; exact h _ ((Below.refl _ _).alloc (Nat.le_refl _) _) (by simp) (Has.made _ _ _))
end
end Go.Proofs.YtbpaepkcchpmbaaGreat

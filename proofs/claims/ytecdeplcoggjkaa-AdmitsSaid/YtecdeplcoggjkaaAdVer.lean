/-
  Walk: admit.Verdict (written by gen/adver.py).
-/
import Derived.Test.YtecdeplcoggjkaaAdRule
import Derived.Test.YtecdeplcoggjkaaAdMay
namespace Go.Proofs.Ytecdeplcoggjkaa
open Go.RowKit

/-- The variables of a call of Verdict, in six new blocks. -/
structure VeS (w : World) (A : Option Addr) (n c : Nat) (la ro se so le he kn : Int) (has : Bool) (kd os oe ti va : Int) (wr : World) : Prop where
  cf : Has wr w.heap.size 24 (cfC A n c la ro se so)
  le : Has wr (w.heap.size + 1) 3 #[.int .i64 le]
  he : Has wr (w.heap.size + 1 + 1) 3 #[.int .i64 he]
  kn : Has wr (w.heap.size + 1 + 1 + 1) 3 #[.int .i64 kn]
  has : Has wr (w.heap.size + 1 + 1 + 1 + 1) 4 #[.bool has]
  op : Has wr (w.heap.size + 1 + 1 + 1 + 1 + 1) 26 (opC kd os oe ti va)
  keep : Below w.heap.size w wr
section
variable {w : World} {A : Option Addr} {n c : Nat} {la ro se so le he kn : Int} {has : Bool} {kd os oe ti va : Int}
theorem VeS.below {wr w2 : World} (h : VeS w A n c la ro se so le he kn has kd os oe ti va wr) (hb : Below wr.heap.size wr w2) : VeS w A n c la ro se so le he kn has kd os oe ti va w2 :=
  ⟨h.cf.below hb h.cf.lt, h.le.below hb h.le.lt, h.he.below hb h.he.lt, h.kn.below hb h.kn.lt, h.has.below hb h.has.lt, h.op.below hb h.op.lt, h.keep.trans (hb.mono h.keep.size)⟩
theorem VeS.made : VeS w A n c la ro se so le he kn has kd os oe ti va ((((((w.alloc (.cells #[.slice A n c, .int .i64 la, .int .i64 ro, .int .i64 se, .int .i64 so] 24)).alloc (.cells #[.int .i64 le] 3)).alloc (.cells #[.int .i64 he] 3)).alloc (.cells #[.int .i64 kn] 3)).alloc (.cells #[.bool has] 4)).alloc (.cells #[.int .i64 kd, .int .i64 os, .int .i64 oe, .int .i64 ti, .int .i64 va] 26)) := by
  have s1 : ∀ (W : World) (o : Obj), (W.alloc o).heap.size = W.heap.size + 1 := fun W o => by simp
  have m : ∀ (W : World) (g : Nat) (t : TypeId) (cs : Array Value), W.heap.size = g → Has (W.alloc (.cells cs t)) g t cs := fun W g t cs h => h ▸ Has.made W t cs
  refine ⟨?_, ?_, ?_, ?_, ?_, ?_, ?_⟩
  · exact (((((m w _ _ _ rfl).alloc _).alloc _).alloc _).alloc _).alloc _
  · exact ((((m _ _ _ _ (by simp only [s1])).alloc _).alloc _).alloc _).alloc _
  · exact (((m _ _ _ _ (by simp only [s1])).alloc _).alloc _).alloc _
  · exact ((m _ _ _ _ (by simp only [s1])).alloc _).alloc _
  · exact (m _ _ _ _ (by simp only [s1])).alloc _
  · exact m _ _ _ _ (by simp only [s1])
  · exact (((((((Below.refl _ _).alloc (Nat.le_refl _) _).alloc (by simp) _).alloc (by simp; omega) _).alloc (by simp; omega) _).alloc (by simp; omega) _).alloc (by simp; omega) _)
end

set_option maxRecDepth 100000 in
set_option maxHeartbeats 2000000 in
theorem ver_bad (A : Option Addr) (n c : Nat) (qs : List Qu) (la ro se so le he kn : Int) (has : Bool) (kd os oe ti va : Int) (w : World) (hr : Qus w A n qs) (hn : n ≤ maxLen) (h : isB qs la ro se so le he kn = false) :
    Calls Try.prog 8 #[.agg #[.slice A n c, .int .i64 la, .int .i64 ro, .int .i64 se, .int .i64 so], .int .i64 le, .int .i64 he, .int .i64 kn, .bool has, .agg #[.int .i64 kd, .int .i64 os, .int .i64 oe, .int .i64 ti, .int .i64 va]] w fun e w' => e = .returned (.tuple #[.int .i64 0, .int .i64 1400]) ∧ Below w.heap.size w w' := by
  have HR := Lib.hid hr; clear hr
  unfold isB at h
  go_enter Try.func8, Try.ntmps8
  go_upto_region 1 with fail
  generalize hw0 : ((((((w.alloc (.cells #[.slice A n c, .int .i64 la, .int .i64 ro, .int .i64 se, .int .i64 so] 24)).alloc (.cells #[.int .i64 le] 3)).alloc (.cells #[.int .i64 he] 3)).alloc (.cells #[.int .i64 kn] 3)).alloc (.cells #[.bool has] 4)).alloc (.cells #[.int .i64 kd, .int .i64 os, .int .i64 oe, .int .i64 ti, .int .i64 va] 26)) = w1
  have HS : Hid (VeS w A n c la ro se so le he kn has kd os oe ti va w1) := by rw [← hw0]; exact VeS.made
  clear hw0
  have hcc := cells_cf HS.out.cf
  go_wp2_with fail
  refine (amay_any A n c qs la ro se so w1 (HR.out.below HS.out.keep) hn).mono ?_
  rintro e w2 ⟨rfl, b2⟩
  have HS2 := Lib.hid (HS.out.below b2)
  have hle : w2.cell? ⟨w.heap.size + 1, 0, none⟩ = some (.int .i64 le) := HS2.out.le.cell 0
  have hhe : w2.cell? ⟨w.heap.size + 1 + 1, 0, none⟩ = some (.int .i64 he) := HS2.out.he.cell 0
  have hkn : w2.cell? ⟨w.heap.size + 1 + 1 + 1, 0, none⟩ = some (.int .i64 kn) := HS2.out.kn.cell 0
  clear b2 HS hcc
  cases k1 : cfB qs la ro se so
  · go_wp2_with fail
    go_ret2
    exact ⟨rfl, HS2.out.keep⟩
  · cases k2 : wi le (-4398046511104) 4398046511104
    · go_wp2_with (go_at_call 16; refine (within_any _ _ _ _).mono ?_; rintro e w' ⟨rfl, rfl⟩)
      go_ret2
      exact ⟨rfl, HS2.out.keep⟩
    · by_cases k3 : 0 ≤ he
      · have k4 : kn < 0 := by rw [k1, k2, decide_eq_true k3] at h; simpa using h
        clear h
        go_wp2_with (go_at_call 16; refine (within_any _ _ _ _).mono ?_; rintro e w' ⟨rfl, rfl⟩)
        go_ret2
        exact ⟨rfl, HS2.out.keep⟩
      · clear h
        go_wp2_with (go_at_call 16; refine (within_any _ _ _ _).mono ?_; rintro e w' ⟨rfl, rfl⟩)
        go_ret2
        exact ⟨rfl, HS2.out.keep⟩

theorem Try.rsize : (Try.prog.info? 49).map (·.size) = some 2 := by kernel_rfl
/-- The store of a rule into a variable that was made last. -/
theorem store_rule {ops : Array Oper} {rest : List Oper} {op : Oper} {a : Act} {w : World} {Q : Exit → Act → World → Prop} (hgd : op.guard = none) (x y : Operand) (ho : op.op = .store 49 x y)
    {old : Array Value} {v : Int} {f : Fn} {c1 c2 : Array Value} (hx : a.eval x = .pointer (some ⟨w.heap.size, 0, none⟩)) (hy : a.eval y = .agg #[.int .i64 v, .func f c1 c2]) (hold : old.size = 2)
    (h : ∀ w', Below w.heap.size w w' → w.heap.size < w'.heap.size → Has w' w.heap.size 49 #[.int .i64 v, .func f c1 c2] → wpList Try.prog ops Q rest (a.put op.dst undef) w') : wpList Try.prog ops Q (op :: rest) a (w.alloc (.cells old 49)) :=
  wpList_store_row hgd 49 x y ho w.heap.size _ hx hy 49 old (Has.made _ _ _) Try.rsize hold (by simp [Value.oneCell']) (by rw [World.setRow_alloc_new]; exact h _ ((Below.refl _ _).alloc (Nat.le_refl _) _) (by simp) (Has.made _ _ _))
/-- The table of rules. -/
def tabV (w : World) : Array Value := #[.int .i64 4, .func (.func 17) #[] #[.pointer (some ⟨w.heap.size + 1 + 1 + 1 + 1 + 1, 0, none⟩), .pointer (some ⟨w.heap.size, 0, none⟩)], .int .i64 1, .func (.func 19) #[] #[.pointer (some ⟨w.heap.size + 1 + 1 + 1 + 1 + 1, 0, none⟩), .pointer (some ⟨w.heap.size + 1, 0, none⟩), .pointer (some ⟨w.heap.size, 0, none⟩)], .int .i64 3, .func (.func 20) #[] #[.pointer (some ⟨w.heap.size + 1 + 1 + 1 + 1, 0, none⟩), .pointer (some ⟨w.heap.size + 1 + 1 + 1, 0, none⟩), .pointer (some ⟨w.heap.size, 0, none⟩)], .int .i64 2, .func (.func 21) #[] #[.pointer (some ⟨w.heap.size + 1 + 1, 0, none⟩), .pointer (some ⟨w.heap.size, 0, none⟩)]]
structure TbS (w : World) (A : Option Addr) (n c : Nat) (la ro se so le he kn : Int) (has : Bool) (kd os oe ti va : Int) (R : Nat) (wr : World) : Prop where
  vs : VeS w A n c la ro se so le he kn has kd os oe ti va wr
  tb : Has wr R 49 (tabV w)
section
variable {w : World} {A : Option Addr} {n c : Nat} {la ro se so le he kn : Int} {has : Bool} {kd os oe ti va : Int} {R : Nat}
theorem TbS.below {wr w2 : World} (h : TbS w A n c la ro se so le he kn has kd os oe ti va R wr) (hb : Below wr.heap.size wr w2) : TbS w A n c la ro se so le he kn has kd os oe ti va R w2 := ⟨h.vs.below hb, h.tb.below hb h.tb.lt⟩
end
/-- No rule ahead of place j applies. -/
def noB (la ro se so le he kn : Int) (has : Bool) (kd os oe ti va : Int) (j : Nat) : Prop :=
  (0 < j → smB kd os oe ti va so = true) ∧ (1 < j → ¬ ti < le - la) ∧ (2 < j → ¬ (has = false ∧ se ≤ kn)) ∧ (3 < j → ¬ ro ≤ he)

theorem call1_lit (A : Option Addr) (n c : Nat) (la ro se so le he kn : Int) (has : Bool) (kd os oe ti va : Int) (w : World) (R : Nat) (b : Bool)  (hb : (!smB kd os oe ti va so) = b) (W : World) (h : TbS w A n c la ro se so le he kn has kd os oe ti va R W) :
    Calls Try.prog 17 #[.pointer (some ⟨w.heap.size + 1 + 1 + 1 + 1 + 1, 0, none⟩), .pointer (some ⟨w.heap.size, 0, none⟩)] W fun e w' => e = .returned (.bool b) ∧ Below W.heap.size W w' := by
  rw [← hb]
  exact rule1_any (w.heap.size + 1 + 1 + 1 + 1 + 1) w.heap.size A n c la ro se so kd os oe ti va W h.vs.op h.vs.cf

theorem call2_lit (A : Option Addr) (n c : Nat) (la ro se so le he kn : Int) (has : Bool) (kd os oe ti va : Int) (w : World) (R : Nat) (b : Bool) (l1 : -4398046511104 ≤ le ∧ le ≤ 4398046511104) (l2 : 0 ≤ la ∧ la ≤ 1073741824) (hb : (decide (ti < le - la)) = b) (W : World) (h : TbS w A n c la ro se so le he kn has kd os oe ti va R W) :
    Calls Try.prog 19 #[.pointer (some ⟨w.heap.size + 1 + 1 + 1 + 1 + 1, 0, none⟩), .pointer (some ⟨w.heap.size + 1, 0, none⟩), .pointer (some ⟨w.heap.size, 0, none⟩)] W fun e w' => e = .returned (.bool b) ∧ Below W.heap.size W w' := by
  rw [← hb]
  exact (rule2_any (w.heap.size + 1 + 1 + 1 + 1 + 1) (w.heap.size + 1) w.heap.size A n c la ro se so kd os oe ti va le W h.vs.op h.vs.le h.vs.cf l1 l2).mono (fun e w3 h => ⟨h.1, h.2 ▸ Below.refl _ _⟩)

theorem call3_lit (A : Option Addr) (n c : Nat) (la ro se so le he kn : Int) (has : Bool) (kd os oe ti va : Int) (w : World) (R : Nat) (b : Bool)  (hb : (!has && decide (se ≤ kn)) = b) (W : World) (h : TbS w A n c la ro se so le he kn has kd os oe ti va R W) :
    Calls Try.prog 20 #[.pointer (some ⟨w.heap.size + 1 + 1 + 1 + 1, 0, none⟩), .pointer (some ⟨w.heap.size + 1 + 1 + 1, 0, none⟩), .pointer (some ⟨w.heap.size, 0, none⟩)] W fun e w' => e = .returned (.bool b) ∧ Below W.heap.size W w' := by
  rw [← hb]
  exact (rule3_any (w.heap.size + 1 + 1 + 1 + 1) (w.heap.size + 1 + 1 + 1) w.heap.size A n c la ro se so kn has W h.vs.has h.vs.kn h.vs.cf).mono (fun e w3 h => ⟨h.1, h.2 ▸ Below.refl _ _⟩)

theorem call4_lit (A : Option Addr) (n c : Nat) (la ro se so le he kn : Int) (has : Bool) (kd os oe ti va : Int) (w : World) (R : Nat) (b : Bool)  (hb : (decide (ro ≤ he)) = b) (W : World) (h : TbS w A n c la ro se so le he kn has kd os oe ti va R W) :
    Calls Try.prog 21 #[.pointer (some ⟨w.heap.size + 1 + 1, 0, none⟩), .pointer (some ⟨w.heap.size, 0, none⟩)] W fun e w' => e = .returned (.bool b) ∧ Below W.heap.size W w' := by
  rw [← hb]
  exact (rule4_any (w.heap.size + 1 + 1) w.heap.size A n c la ro se so he W h.vs.he h.vs.cf).mono (fun e w3 h => ⟨h.1, h.2 ▸ Below.refl _ _⟩)

set_option maxRecDepth 100000 in
set_option maxHeartbeats 4000000 in
theorem ver_ok (A : Option Addr) (n c : Nat) (qs : List Qu) (la ro se so le he kn : Int) (has : Bool) (kd os oe ti va : Int) (w : World) (hr : Qus w A n qs) (hn : n ≤ maxLen) (h : isB qs la ro se so le he kn = true) :
    Calls Try.prog 8 #[.agg #[.slice A n c, .int .i64 la, .int .i64 ro, .int .i64 se, .int .i64 so], .int .i64 le, .int .i64 he, .int .i64 kn, .bool has, .agg #[.int .i64 kd, .int .i64 os, .int .i64 oe, .int .i64 ti, .int .i64 va]] w fun e w' => e = .returned (.tuple #[.int .i64 (tellV la ro se so le he kn has kd os oe ti va), .int .i64 0]) ∧ Below w.heap.size w w' := by
  have HR := Lib.hid hr; clear hr
  obtain ⟨k1, l1, k3, k4⟩ := isB_true h
  have l2 := (limB_true (cfB_true k1)).1
  have k2 : wi le (-4398046511104) 4398046511104 = true := wi_mk l1
  clear h
  have L1 := Lib.hid l1; clear l1
  have L2 := Lib.hid l2; clear l2
  go_enter Try.func8, Try.ntmps8
  go_upto_region 1 with fail
  generalize hw0 : ((((((w.alloc (.cells #[.slice A n c, .int .i64 la, .int .i64 ro, .int .i64 se, .int .i64 so] 24)).alloc (.cells #[.int .i64 le] 3)).alloc (.cells #[.int .i64 he] 3)).alloc (.cells #[.int .i64 kn] 3)).alloc (.cells #[.bool has] 4)).alloc (.cells #[.int .i64 kd, .int .i64 os, .int .i64 oe, .int .i64 ti, .int .i64 va] 26)) = w1
  have HS : Hid (VeS w A n c la ro se so le he kn has kd os oe ti va w1) := by rw [← hw0]; exact VeS.made
  clear hw0
  have hcc := cells_cf HS.out.cf
  go_wp2_with fail
  refine (amay_any A n c qs la ro se so w1 (HR.out.below HS.out.keep) hn).mono ?_
  rintro e w2 ⟨rfl, b2⟩
  have HS2 := Lib.hid (HS.out.below b2)
  have hle : w2.cell? ⟨w.heap.size + 1, 0, none⟩ = some (.int .i64 le) := HS2.out.le.cell 0
  have hhe : w2.cell? ⟨w.heap.size + 1 + 1, 0, none⟩ = some (.int .i64 he) := HS2.out.he.cell 0
  have hkn : w2.cell? ⟨w.heap.size + 1 + 1 + 1, 0, none⟩ = some (.int .i64 kn) := HS2.out.kn.cell 0
  clear b2 HS hcc
  rw [k1]
  have HTS : Hid (∀ R, R = w2.heap.size → TbS w A n c la ro se so le he kn has kd os oe ti va R (w2.alloc (.cells #[.int .i64 4, .func (.func 17) #[] #[.pointer (some ⟨w.heap.size + 1 + 1 + 1 + 1 + 1, 0, none⟩), .pointer (some ⟨w.heap.size, 0, none⟩)], .int .i64 1, .func (.func 19) #[] #[.pointer (some ⟨w.heap.size + 1 + 1 + 1 + 1 + 1, 0, none⟩), .pointer (some ⟨w.heap.size + 1, 0, none⟩), .pointer (some ⟨w.heap.size, 0, none⟩)], .int .i64 3, .func (.func 20) #[] #[.pointer (some ⟨w.heap.size + 1 + 1 + 1 + 1, 0, none⟩), .pointer (some ⟨w.heap.size + 1 + 1 + 1, 0, none⟩), .pointer (some ⟨w.heap.size, 0, none⟩)], .int .i64 2, .func (.func 21) #[] #[.pointer (some ⟨w.heap.size + 1 + 1, 0, none⟩), .pointer (some ⟨w.heap.size, 0, none⟩)]] 49))) := fun R hR => ⟨HS2.out.below ((Below.refl _ _).alloc (Nat.le_refl _) _), hR ▸ Has.made w2 _ _⟩
  obtain ⟨R, hR⟩ : ∃ R, R = w2.heap.size := ⟨_, rfl⟩
  have HT := Lib.hid (HTS.out R hR); clear HTS
  clear k1
  go_wp2_with (go_at_call 16; refine (within_any _ _ _ _).mono ?_; rintro e w' ⟨rfl, rfl⟩)
  rw [← hR]
  generalize hw3 : w2.alloc (.cells #[.int .i64 4, .func (.func 17) #[] #[.pointer (some ⟨w.heap.size + 1 + 1 + 1 + 1 + 1, 0, none⟩), .pointer (some ⟨w.heap.size, 0, none⟩)], .int .i64 1, .func (.func 19) #[] #[.pointer (some ⟨w.heap.size + 1 + 1 + 1 + 1 + 1, 0, none⟩), .pointer (some ⟨w.heap.size + 1, 0, none⟩), .pointer (some ⟨w.heap.size, 0, none⟩)], .int .i64 3, .func (.func 20) #[] #[.pointer (some ⟨w.heap.size + 1 + 1 + 1 + 1, 0, none⟩), .pointer (some ⟨w.heap.size + 1 + 1 + 1, 0, none⟩), .pointer (some ⟨w.heap.size, 0, none⟩)], .int .i64 2, .func (.func 21) #[] #[.pointer (some ⟨w.heap.size + 1 + 1, 0, none⟩), .pointer (some ⟨w.heap.size, 0, none⟩)]] 49) = w3 at HT ⊢
  clear hw3 hR hle hhe hkn HS2 k2
  go_loopw [44] (fun i wr => ∃ j : Nat, j ≤ 4 ∧ i = .int .i64 j ∧ Hid (noB la ro se so le he kn has kd os oe ti va j) ∧ Hid (TbS w A n c la ro se so le he kn has kd os oe ti va R wr)) (fun i _ => 4 - (intOf i).toNat)
  case atStart => exact ⟨0, by omega, rfl, ⟨fun h => by omega, fun h => by omega, fun h => by omega, fun h => by omega⟩, HT⟩
  case round =>
    clear HT
    obtain ⟨j, hj, rfl, HN, HT⟩ := hrel
    have hcell : ∀ i, wr.cell? ⟨R, i, none⟩ = (#[.int .i64 4, .func (.func 17) #[] #[.pointer (some ⟨w.heap.size + 1 + 1 + 1 + 1 + 1, 0, none⟩), .pointer (some ⟨w.heap.size, 0, none⟩)], .int .i64 1, .func (.func 19) #[] #[.pointer (some ⟨w.heap.size + 1 + 1 + 1 + 1 + 1, 0, none⟩), .pointer (some ⟨w.heap.size + 1, 0, none⟩), .pointer (some ⟨w.heap.size, 0, none⟩)], .int .i64 3, .func (.func 20) #[] #[.pointer (some ⟨w.heap.size + 1 + 1 + 1 + 1, 0, none⟩), .pointer (some ⟨w.heap.size + 1 + 1 + 1, 0, none⟩), .pointer (some ⟨w.heap.size, 0, none⟩)], .int .i64 2, .func (.func 21) #[] #[.pointer (some ⟨w.heap.size + 1 + 1, 0, none⟩), .pointer (some ⟨w.heap.size, 0, none⟩)]] : Array Value)[i]? := fun i => HT.out.tb.cell i
    have hlt := HT.out.tb.lt
    have j5 : j = 0 ∨ j = 1 ∨ j = 2 ∨ j = 3 ∨ j = 4 := by omega
    rcases j5 with rfl | rfl | rfl | rfl | rfl
    · by_cases hx : smB kd os oe ti va so = false
      · have HV : Hid (tellV la ro se so le he kn has kd os oe ti va = 4) := by unfold tellV; rw [if_pos hx]; exact rfl
        have CL := Lib.hid (call1_lit A n c la ro se so le he kn has kd os oe ti va w R true  (by rw [hx]; rfl))
        clear hx
        go_wp2_with (refine store_rule rfl _ _ rfl rfl rfl rfl ?_; intro w4 hb4 hs4 hh4; have hc4 : ∀ i, w4.cell? ⟨wr.heap.size, i, none⟩ = _ := fun i => hh4.cell i; have HB4 := Lib.hid hb4; have HH4 := Lib.hid hh4; clear hb4 hh4 hcell)
        refine (CL.out w4 (HT.out.below HB4.out)).mono ?_
        rintro e w5 ⟨rfl, b5⟩
        have hc5 : ∀ i, w5.cell? ⟨wr.heap.size, i, none⟩ = _ := fun i => (HH4.out.below b5 HH4.out.lt).cell i
        have HB5 : Hid (Below w.heap.size w w5) := (HT.out.below HB4.out).vs.keep.trans (b5.mono (HT.out.below HB4.out).vs.keep.size)
        clear b5 hc4
        go_wp2_with fail
        go_ret2
        exact ⟨ret_pair HV.out.symm rfl, HB5.out⟩
      · have HN2 : Hid (noB la ro se so le he kn has kd os oe ti va 1) := ⟨fun _ => (by cases hz : smB kd os oe ti va so with | true => rfl | false => exact absurd hz hx), fun h => by omega, fun h => by omega, fun h => by omega⟩
        have CL := Lib.hid (call1_lit A n c la ro se so le he kn has kd os oe ti va w R false  (by cases hz : smB kd os oe ti va so with | true => rfl | false => exact absurd hz hx))
        clear hx
        go_wp2_with (refine store_rule rfl _ _ rfl rfl rfl rfl ?_; intro w4 hb4 hs4 hh4; have hc4 : ∀ i, w4.cell? ⟨wr.heap.size, i, none⟩ = _ := fun i => hh4.cell i; have HB4 := Lib.hid hb4; have HH4 := Lib.hid hh4; clear hb4 hh4 hcell)
        refine (CL.out w4 (HT.out.below HB4.out)).mono ?_
        rintro e w5 ⟨rfl, b5⟩
        have HT5 := Lib.hid ((HT.out.below HB4.out).below b5)
        clear b5 hc4 HB4 HH4
        go_wp2_with fail
        go_roundw
        case rel => exact ⟨1, by omega, by go_num, HN2, HT5⟩
        case measure => simp [intOf]
    · by_cases hx : ti < le - la
      · have HV : Hid (tellV la ro se so le he kn has kd os oe ti va = 1) := by unfold tellV; rw [if_neg (by rw [HN.out.1 (by omega)]; decide), if_pos hx]; exact rfl
        have CL := Lib.hid (call2_lit A n c la ro se so le he kn has kd os oe ti va w R true L1.out L2.out (decide_eq_true hx))
        clear hx
        go_wp2_with (refine store_rule rfl _ _ rfl rfl rfl rfl ?_; intro w4 hb4 hs4 hh4; have hc4 : ∀ i, w4.cell? ⟨wr.heap.size, i, none⟩ = _ := fun i => hh4.cell i; have HB4 := Lib.hid hb4; have HH4 := Lib.hid hh4; clear hb4 hh4 hcell)
        refine (CL.out w4 (HT.out.below HB4.out)).mono ?_
        rintro e w5 ⟨rfl, b5⟩
        have hc5 : ∀ i, w5.cell? ⟨wr.heap.size, i, none⟩ = _ := fun i => (HH4.out.below b5 HH4.out.lt).cell i
        have HB5 : Hid (Below w.heap.size w w5) := (HT.out.below HB4.out).vs.keep.trans (b5.mono (HT.out.below HB4.out).vs.keep.size)
        clear b5 hc4
        go_wp2_with fail
        go_ret2
        exact ⟨ret_pair HV.out.symm rfl, HB5.out⟩
      · have HN2 : Hid (noB la ro se so le he kn has kd os oe ti va 2) := ⟨fun _ => HN.out.1 (by omega), fun _ => hx, fun h => by omega, fun h => by omega⟩
        have CL := Lib.hid (call2_lit A n c la ro se so le he kn has kd os oe ti va w R false L1.out L2.out (decide_eq_false hx))
        clear hx
        go_wp2_with (refine store_rule rfl _ _ rfl rfl rfl rfl ?_; intro w4 hb4 hs4 hh4; have hc4 : ∀ i, w4.cell? ⟨wr.heap.size, i, none⟩ = _ := fun i => hh4.cell i; have HB4 := Lib.hid hb4; have HH4 := Lib.hid hh4; clear hb4 hh4 hcell)
        refine (CL.out w4 (HT.out.below HB4.out)).mono ?_
        rintro e w5 ⟨rfl, b5⟩
        have HT5 := Lib.hid ((HT.out.below HB4.out).below b5)
        clear b5 hc4 HB4 HH4
        go_wp2_with fail
        go_roundw
        case rel => exact ⟨2, by omega, by go_num, HN2, HT5⟩
        case measure => simp [intOf]
    · by_cases hx : has = false ∧ se ≤ kn
      · have HV : Hid (tellV la ro se so le he kn has kd os oe ti va = 3) := by unfold tellV; rw [if_neg (by rw [HN.out.1 (by omega)]; decide), if_neg (HN.out.2.1 (by omega)), if_pos hx]; exact rfl
        have CL := Lib.hid (call3_lit A n c la ro se so le he kn has kd os oe ti va w R true  (by rw [hx.1, decide_eq_true hx.2]; rfl))
        clear hx
        go_wp2_with (refine store_rule rfl _ _ rfl rfl rfl rfl ?_; intro w4 hb4 hs4 hh4; have hc4 : ∀ i, w4.cell? ⟨wr.heap.size, i, none⟩ = _ := fun i => hh4.cell i; have HB4 := Lib.hid hb4; have HH4 := Lib.hid hh4; clear hb4 hh4 hcell)
        refine (CL.out w4 (HT.out.below HB4.out)).mono ?_
        rintro e w5 ⟨rfl, b5⟩
        have hc5 : ∀ i, w5.cell? ⟨wr.heap.size, i, none⟩ = _ := fun i => (HH4.out.below b5 HH4.out.lt).cell i
        have HB5 : Hid (Below w.heap.size w w5) := (HT.out.below HB4.out).vs.keep.trans (b5.mono (HT.out.below HB4.out).vs.keep.size)
        clear b5 hc4
        go_wp2_with fail
        go_ret2
        exact ⟨ret_pair HV.out.symm rfl, HB5.out⟩
      · have HN2 : Hid (noB la ro se so le he kn has kd os oe ti va 3) := ⟨fun _ => HN.out.1 (by omega), fun _ => HN.out.2.1 (by omega), fun _ => hx, fun h => by omega⟩
        have CL := Lib.hid (call3_lit A n c la ro se so le he kn has kd os oe ti va w R false  (by cases has with | true => rfl | false => exact decide_eq_false fun h => hx ⟨rfl, h⟩))
        clear hx
        go_wp2_with (refine store_rule rfl _ _ rfl rfl rfl rfl ?_; intro w4 hb4 hs4 hh4; have hc4 : ∀ i, w4.cell? ⟨wr.heap.size, i, none⟩ = _ := fun i => hh4.cell i; have HB4 := Lib.hid hb4; have HH4 := Lib.hid hh4; clear hb4 hh4 hcell)
        refine (CL.out w4 (HT.out.below HB4.out)).mono ?_
        rintro e w5 ⟨rfl, b5⟩
        have HT5 := Lib.hid ((HT.out.below HB4.out).below b5)
        clear b5 hc4 HB4 HH4
        go_wp2_with fail
        go_roundw
        case rel => exact ⟨3, by omega, by go_num, HN2, HT5⟩
        case measure => simp [intOf]
    · by_cases hx : ro ≤ he
      · have HV : Hid (tellV la ro se so le he kn has kd os oe ti va = 2) := by unfold tellV; rw [if_neg (by rw [HN.out.1 (by omega)]; decide), if_neg (HN.out.2.1 (by omega)), if_neg (HN.out.2.2.1 (by omega)), if_pos hx]; exact rfl
        have CL := Lib.hid (call4_lit A n c la ro se so le he kn has kd os oe ti va w R true  (decide_eq_true hx))
        clear hx
        go_wp2_with (refine store_rule rfl _ _ rfl rfl rfl rfl ?_; intro w4 hb4 hs4 hh4; have hc4 : ∀ i, w4.cell? ⟨wr.heap.size, i, none⟩ = _ := fun i => hh4.cell i; have HB4 := Lib.hid hb4; have HH4 := Lib.hid hh4; clear hb4 hh4 hcell)
        refine (CL.out w4 (HT.out.below HB4.out)).mono ?_
        rintro e w5 ⟨rfl, b5⟩
        have hc5 : ∀ i, w5.cell? ⟨wr.heap.size, i, none⟩ = _ := fun i => (HH4.out.below b5 HH4.out.lt).cell i
        have HB5 : Hid (Below w.heap.size w w5) := (HT.out.below HB4.out).vs.keep.trans (b5.mono (HT.out.below HB4.out).vs.keep.size)
        clear b5 hc4
        go_wp2_with fail
        go_ret2
        exact ⟨ret_pair HV.out.symm rfl, HB5.out⟩
      · have HN2 : Hid (noB la ro se so le he kn has kd os oe ti va 4) := ⟨fun _ => HN.out.1 (by omega), fun _ => HN.out.2.1 (by omega), fun _ => HN.out.2.2.1 (by omega), fun _ => hx⟩
        have CL := Lib.hid (call4_lit A n c la ro se so le he kn has kd os oe ti va w R false  (decide_eq_false hx))
        clear hx
        go_wp2_with (refine store_rule rfl _ _ rfl rfl rfl rfl ?_; intro w4 hb4 hs4 hh4; have hc4 : ∀ i, w4.cell? ⟨wr.heap.size, i, none⟩ = _ := fun i => hh4.cell i; have HB4 := Lib.hid hb4; have HH4 := Lib.hid hh4; clear hb4 hh4 hcell)
        refine (CL.out w4 (HT.out.below HB4.out)).mono ?_
        rintro e w5 ⟨rfl, b5⟩
        have HT5 := Lib.hid ((HT.out.below HB4.out).below b5)
        clear b5 hc4 HB4 HH4
        go_wp2_with fail
        go_roundw
        case rel => exact ⟨4, by omega, by go_num, HN2, HT5⟩
        case measure => simp [intOf]
    · have HV : Hid (tellV la ro se so le he kn has kd os oe ti va = 0) := by
        unfold tellV; rw [if_neg (by rw [HN.out.1 (by omega)]; decide), if_neg (HN.out.2.1 (by omega)), if_neg (HN.out.2.2.1 (by omega)), if_neg (HN.out.2.2.2 (by omega))]; exact rfl
      go_wp2_with fail
      go_ret2
      exact ⟨ret_pair HV.out.symm rfl, HT.out.vs.keep⟩

end Go.Proofs.Ytecdeplcoggjkaa

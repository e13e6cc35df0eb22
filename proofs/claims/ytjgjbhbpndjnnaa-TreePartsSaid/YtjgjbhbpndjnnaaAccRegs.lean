/-
  Walks: the statements that hold two rows of aggregates against one another, place by place: SameAccs; the round of Accs.
-/
import Derived.Test.YtjgjbhbpndjnnaaG49
import Derived.Test.YtjgjbhbpndjnnaaRAcc
import Derived.Test.YtjgjbhbpndjnnaaG11
import Derived.Test.YtjgjbhbpndjnnaaG4
import Derived.Test.YtjgjbhbpndjnnaaG15
namespace Go.Proofs.Ytjgjbhbpndjnnaa
open Go.RowKit

section
variable {D : List (Option Tmp)} {Φ : Fact} {o : Oper} {a : Act} {w : World}
theorem step_iaddrA (hw : Region.wanted o (yieldD D a.tmps) = true) {t : Tmp} (hd : o.dst = some t) (x y : Operand) (ho : o.op = .indexAddr 24 x y) (b f n c k : Nat) (hx : a.eval x = .slice (some ⟨b, f, none⟩) n c) (hy : a.eval y = .int .i64 (k : Int)) (hk : k < n)
    (h : Φ (.pointer (some ⟨b, f + k * 13, none⟩)) w) : StepD Try.prog D Φ o a w := by
  refine step_val hw hd _ _ ?_ (Below.refl _ _) h
  have hk2 : (k : Int) < (n : Int) := by omega
  unfold execOp
  rw [ho]
  simp only [hx, hy]
  simp [go_sem, hk2]
theorem step_accA (hw : Region.wanted o (yieldD D a.tmps) = true) {t : Tmp} (hd : o.dst = some t) (x : Operand) (ho : o.op = .load 29 x) (b f : Nat) (hx : a.eval x = .pointer (some ⟨b, f, none⟩)) {c : Ac} {A : Option Addr} {k m : Nat} (hc : AccAt w b f c A k m)
    (h : Φ (.agg (accC c A k m)) w) : StepD Try.prog D Φ o a w := by
  intro Q
  rw [if_pos hw]
  exact wp_load_mid 29 x ho b f hx _ _ hc.1 Try.underlying29 rfl Try.sizeAcc ⟨_, rfl, (fun hn => by rw [hd] at hn; cases hn), Below.refl _ _, by simpa using h⟩
theorem step_neqB (hw : Region.wanted o (yieldD D a.tmps) = true) {t : Tmp} (hd : o.dst = some t) (x y : Operand) (ho : o.op = .binOp .neq 4 x y 4) (v : Bool) (hx : a.eval x = .bool v) (hy : a.eval y = .bool v) (h : Φ (.bool false) w) : StepD Try.prog D Φ o a w :=
  step_val hw hd _ _ (by unfold execOp; rw [ho]; simp only [hx, hy]; simp [go_sem]) (Below.refl _ _) h
end

section
variable (b1 o1 b2 o2 n c d j : Nat) (Z : Ac) (A1 A2 : Option Addr) (k c1 c2 : Nat)
def sa6F : List Fact := [isV (.slice (some ⟨b1, o1, none⟩) n c), isV (.int .i64 (j : Int)), isV (.pointer (some ⟨b1, o1 + j * 13, none⟩)), isV (.agg (accC Z A1 k c1)), isV (.slice (some ⟨b2, o2, none⟩) n d), isV (.int .i64 (j : Int)), isV (.pointer (some ⟨b2, o2 + j * 13, none⟩)), isV (.agg (accC Z A2 k c2)), isV (.bool true), isV (.bool false)]
def sa6D : List (Option Tmp) := [some 17, some 18, some 19, some 20, some 21, some 22, some 23, some 24, some 25, some 26]
theorem sa6F_mono : ∀ f ∈ sa6F b1 o1 b2 o2 n c d j Z A1 A2 k c1 c2, Mono f := by
  unfold sa6F
  repeat (first | exact monos_nil | (refine monos_cons (mono_isV _) ?_))
structure Sa6 (a0 : Act) (w0 : World) : Prop where
  size : a0.tmps.size = 27
  v0 : a0.tmps.getD 0 undef = .slice (some ⟨b1, o1, none⟩) n c
  v1 : a0.tmps.getD 1 undef = .slice (some ⟨b2, o2, none⟩) n d
  v5 : a0.tmps.getD 5 undef = .int .i64 (j : Int)
  r1 : AccAt w0 b1 (o1 + j * 13) Z A1 k c1
  r2 : AccAt w0 b2 (o2 + j * 13) Z A2 k c2
  lt : j < n
end
section
variable {b1 o1 b2 o2 n c d j : Nat} {Z : Ac} {A1 A2 : Option Addr} {k c1 c2 : Nat} {a0 : Act} {w0 : World} (S : Sa6 b1 o1 b2 o2 n c d j Z A1 A2 k c1 c2 a0 w0)
include S
set_option maxRecDepth 100000 in
set_option maxHeartbeats 4000000 in
theorem sa6_ok : AllOps (fun i o => ∀ (a : Act) (w : World), Below w0.heap.size w0 w → FrD sa6D a0 a → needs sa6D (sa6F b1 o1 b2 o2 n c d j Z A1 A2 k c1 c2) a w o.after.toList → StepD Try.prog sa6D (factAt (sa6F b1 o1 b2 o2 n c d j Z A1 A2 k c1 c2) i) o a w) 0 (opsOf 6 Try.f20) := by
  simp only [opsOf, Try.f20, opsAt, Option.bind, Option.or, Option.getD, reduceCtorEq, if_true, if_false, Nat.reduceEqDiff]
  refine ⟨?_, ?_⟩
  · intro a w hB hF hd
    exact step_move (guard_none rfl) rfl _ rfl ((hF.other 0 rfl).trans S.v0)
  refine ⟨?_, ?_⟩
  · intro a w hB hF hd
    exact step_move (guard_none rfl) rfl _ rfl ((hF.other 5 rfl).trans S.v5)
  refine ⟨?_, ?_⟩
  · intro a w hB hF hd
    have h0 : a.tmps.getD 17 undef = .slice (some ⟨b1, o1, none⟩) n c := hd.1 rfl
    have h1 : a.tmps.getD 18 undef = .int .i64 (j : Int) := hd.2.1 rfl
    exact step_iaddrA (guard_none rfl) rfl _ _ rfl b1 o1 n c j h0 h1 S.lt rfl
  refine ⟨?_, ?_⟩
  · intro a w hB hF hd
    have h0 : a.tmps.getD 19 undef = .pointer (some ⟨b1, o1 + j * 13, none⟩) := hd.1 rfl
    exact step_accA (guard_none rfl) rfl _ rfl b1 _ h0 (S.r1.keep fun _ hp => hB.cell hp) rfl
  refine ⟨?_, ?_⟩
  · intro a w hB hF hd
    exact step_move (guard_none rfl) rfl _ rfl ((hF.other 1 rfl).trans S.v1)
  refine ⟨?_, ?_⟩
  · intro a w hB hF hd
    exact step_move (guard_none rfl) rfl _ rfl ((hF.other 5 rfl).trans S.v5)
  refine ⟨?_, ?_⟩
  · intro a w hB hF hd
    have h0 : a.tmps.getD 21 undef = .slice (some ⟨b2, o2, none⟩) n d := hd.1 rfl
    have h1 : a.tmps.getD 22 undef = .int .i64 (j : Int) := hd.2.1 rfl
    exact step_iaddrA (guard_none rfl) rfl _ _ rfl b2 o2 n d j h0 h1 S.lt rfl
  refine ⟨?_, ?_⟩
  · intro a w hB hF hd
    have h0 : a.tmps.getD 23 undef = .pointer (some ⟨b2, o2 + j * 13, none⟩) := hd.1 rfl
    exact step_accA (guard_none rfl) rfl _ rfl b2 _ h0 (S.r2.keep fun _ hp => hB.cell hp) rfl
  refine ⟨?_, ?_⟩
  · intro a w hB hF hd
    have h0 : a.tmps.getD 20 undef = .agg (accC Z A1 k c1) := hd.1 rfl
    have h1 : a.tmps.getD 24 undef = .agg (accC Z A2 k c2) := hd.2.1 rfl
    have k1 := S.r1.keep (w' := w) fun _ hp => hB.cell hp
    have k2 := S.r2.keep (w' := w) fun _ hp => hB.cell hp
    refine step_call (guard_none rfl) rfl _ _ (rf_call_run Try.func15 (by kernel_rfl) (by kernel_rfl) _ _ rfl) ?_
    simp only [List.map_toArray, List.map_cons, List.map_nil, Act.eval, h0, h1]
    exact (sameAcc_true Z A1 A2 k c1 c2 _ k1.2.1 k2.2.1 (Nat.le_trans k1.2.2.1 k1.2.2.2)).mono (by rintro e w1 ⟨rfl, hb⟩; exact ⟨_, rfl, hb, rfl⟩)
  refine ⟨?_, ?_⟩
  · intro a w hB hF hd
    have h0 : a.tmps.getD 25 undef = .bool true := hd.1 rfl
    exact step_not (guard_none rfl) rfl _ _ rfl h0 rfl
  trivial
theorem sa6_any {Q : Exit → Act → World → Prop} {l : List Oper} (hl : opsOf 6 Try.f20 = l)
    (hend : ∀ (w : World), Below w0.heap.size w0 w → Q .normal (putAll a0 [(17, .slice (some ⟨b1, o1, none⟩) n c), (18, .int .i64 (j : Int)), (19, .pointer (some ⟨b1, o1 + j * 13, none⟩)), (20, .agg (accC Z A1 k c1)), (21, .slice (some ⟨b2, o2, none⟩) n d), (22, .int .i64 (j : Int)), (23, .pointer (some ⟨b2, o2 + j * 13, none⟩)), (24, .agg (accC Z A2 k c2)), (25, .bool true), (26, .bool false)]) w) :
    (Code.region 6 l.toArray true).wp Try.prog Q a0 w0 := by
  subst hl
  refine region_facts (sa6F b1 o1 b2 o2 n c d j Z A1 A2 k c1 c2) sa6D 27 S.size rfl (by kernel_rfl) (by kernel_rfl) (sa6F_mono _ _ _ _ _ _ _ _ _ _ _ _ _ _) (sa6_ok S) fun a w hB hF h => ?_
  rw [frame_is hF [(17, .slice (some ⟨b1, o1, none⟩) n c), (18, .int .i64 (j : Int)), (19, .pointer (some ⟨b1, o1 + j * 13, none⟩)), (20, .agg (accC Z A1 k c1)), (21, .slice (some ⟨b2, o2, none⟩) n d), (22, .int .i64 (j : Int)), (23, .pointer (some ⟨b2, o2 + j * 13, none⟩)), (24, .agg (accC Z A2 k c2)), (25, .bool true), (26, .bool false)]
    ⟨h 0 (some 17) rfl, h 1 (some 18) rfl, h 2 (some 19) rfl, h 3 (some 20) rfl, h 4 (some 21) rfl, h 5 (some 22) rfl, h 6 (some 23) rfl, h 7 (some 24) rfl, h 8 (some 25) rfl, h 9 (some 26) rfl, trivial⟩ (by rfl) (by rfl)]
  exact hend w hB
end

set_option maxRecDepth 100000 in
set_option maxHeartbeats 4000000 in
theorem sameaccs_any (A B : Option Addr) (n c d : Nat) (xs : List Ac) (w : World) (ha : Accs w A n xs) (hb : Accs w B n xs) (hn : n ≤ 17592186044416) :
    Calls Try.prog 20 #[.slice A n c, .slice B n d] w fun e w' => e = .returned (.bool true) ∧ Below w.heap.size w w' := by
  have HA := Lib.hid ha; clear ha
  have HB := Lib.hid hb; clear hb
  have HK0 : Hid (Below w.heap.size w w) := Below.refl _ _
  go_enter Try.func20, Try.ntmps20
  go_wp2_with fail
  go_loopw [5] (fun i wr => ∃ j : Nat, j ≤ n ∧ i = .int .i64 j ∧ Hid (Below w.heap.size w wr)) (fun i _ => n - (intOf i).toNat)
  case atStart => exact ⟨0, Nat.zero_le _, rfl, HK0⟩
  case round =>
    clear HK0
    obtain ⟨j, hj, rfl, HK⟩ := hrel
    by_cases hlt : j < n
    · obtain ⟨b1, o1, rfl, h1⟩ := (HA.out.below HK.out).2 (by omega)
      obtain ⟨A1, k1, c1, r1⟩ := h1 j hlt
      obtain ⟨b2, o2, rfl, h2⟩ := (HB.out.below HK.out).2 (by omega)
      obtain ⟨A2, k2, c2, r2⟩ := h2 j hlt
      obtain rfl : k2 = k1 := r2.2.1.1.symm.trans r1.2.1.1
      have R1 := Lib.hid r1
      have R2 := Lib.hid r2
      clear h1 h2 r1 r2
      have hjn : (j : Int) < (n : Int) := by omega
      go_upto_region 6 with fail
      refine sa6_any (b1 := b1) (o1 := o1) (b2 := b2) (o2 := o2) (n := n) (c := c) (d := d) (j := j) (Z := nthA xs j) (A1 := A1) (A2 := A2) (k := k2) (c1 := c1) (c2 := c2) ⟨rfl, rfl, rfl, rfl, R1.out, R2.out, hlt⟩ (by kernel_rfl) ?_
      intro w5 hB5
      have HK5 := Lib.hid (HK.out.trans (hB5.mono HK.out.size))
      clear hB5 R1 R2
      simp only [putAll, Act.put, List.setIfInBounds_toArray, List.set_cons_succ, List.set_cons_zero]
      go_wp2_with fail
      go_roundw
      case rel => exact ⟨j + 1, by omega, by go_num, HK5⟩
      case measure => simp [intOf]; omega
    · have hjm : j = n := by omega
      subst hjm
      go_wp2
      go_ret
      exact ⟨rfl, HK.out⟩

section
variable (b1 o1 b2 o2 n c d j : Nat) (Z : Ac) (A1 A2 : Option Addr) (k c1 c2 : Nat) (B1 B2 : Option Addr) (m d1 d2 : Nat) (V : Bool)
def ac11F : List Fact := [isV (.slice (some ⟨b1, o1, none⟩) n c), isV (.int .i64 (j : Int)), isV (.pointer (some ⟨b1, o1 + j * 13, none⟩)), isV (.agg (accC Z A1 k c1)), isV (.slice B1 m d1), isV (.bool V), isV (.slice (some ⟨b2, o2, none⟩) n d), isV (.int .i64 (j : Int)), isV (.pointer (some ⟨b2, o2 + j * 13, none⟩)), isV (.agg (accC Z A2 k c2)), isV (.slice B2 m d2), isV (.bool V), isV (.bool false)]
def ac11D : List (Option Tmp) := [some 74, some 75, some 76, some 77, some 78, some 79, some 80, some 81, some 82, some 83, some 84, some 85, some 86]
theorem ac11F_mono : ∀ f ∈ ac11F b1 o1 b2 o2 n c d j Z A1 A2 k c1 c2 B1 B2 m d1 d2 V, Mono f := by
  unfold ac11F
  repeat (first | exact monos_nil | (refine monos_cons (mono_isV _) ?_))
structure Ac11 (bs : List Int) (a0 : Act) (w0 : World) : Prop where
  size : a0.tmps.size = 104
  v8 : a0.tmps.getD 8 undef = .slice (some ⟨b1, o1, none⟩) n c
  v1 : a0.tmps.getD 1 undef = .slice (some ⟨b2, o2, none⟩) n d
  v17 : a0.tmps.getD 17 undef = .int .i64 (j : Int)
  v7 : a0.tmps.getD 7 undef = .slice B1 m d1
  v2 : a0.tmps.getD 2 undef = .slice B2 m d2
  r1 : AccAt w0 b1 (o1 + j * 13) Z A1 k c1
  r2 : AccAt w0 b2 (o2 + j * 13) Z A2 k c2
  s1 : Ints w0 B1 m bs
  s2 : Ints w0 B2 m bs
  sm : m ≤ maxLen
  lt : j < n
  eV : accB Z bs = V
end
section
variable {b1 o1 b2 o2 n c d j : Nat} {Z : Ac} {A1 A2 : Option Addr} {k c1 c2 : Nat} {B1 B2 : Option Addr} {m d1 d2 : Nat} {V : Bool} {bs : List Int} {a0 : Act} {w0 : World} (S : Ac11 b1 o1 b2 o2 n c d j Z A1 A2 k c1 c2 B1 B2 m d1 d2 V bs a0 w0)
include S
set_option maxRecDepth 100000 in
set_option maxHeartbeats 4000000 in
theorem ac11_ok : AllOps (fun i o => ∀ (a : Act) (w : World), Below w0.heap.size w0 w → FrD ac11D a0 a → needs ac11D (ac11F b1 o1 b2 o2 n c d j Z A1 A2 k c1 c2 B1 B2 m d1 d2 V) a w o.after.toList → StepD Try.prog ac11D (factAt (ac11F b1 o1 b2 o2 n c d j Z A1 A2 k c1 c2 B1 B2 m d1 d2 V) i) o a w) 0 (opsOf 11 Try.f3) := by
  simp only [opsOf, Try.f3, opsAt, Option.bind, Option.or, Option.getD, reduceCtorEq, if_true, if_false, Nat.reduceEqDiff]
  refine ⟨?_, ?_⟩
  · intro a w hB hF hd
    exact step_move (guard_none rfl) rfl _ rfl ((hF.other 8 rfl).trans S.v8)
  refine ⟨?_, ?_⟩
  · intro a w hB hF hd
    exact step_move (guard_none rfl) rfl _ rfl ((hF.other 17 rfl).trans S.v17)
  refine ⟨?_, ?_⟩
  · intro a w hB hF hd
    have h0 : a.tmps.getD 74 undef = .slice (some ⟨b1, o1, none⟩) n c := hd.1 rfl
    have h1 : a.tmps.getD 75 undef = .int .i64 (j : Int) := hd.2.1 rfl
    exact step_iaddrA (guard_none rfl) rfl _ _ rfl b1 o1 n c j h0 h1 S.lt rfl
  refine ⟨?_, ?_⟩
  · intro a w hB hF hd
    have h0 : a.tmps.getD 76 undef = .pointer (some ⟨b1, o1 + j * 13, none⟩) := hd.1 rfl
    exact step_accA (guard_none rfl) rfl _ rfl b1 _ h0 (S.r1.keep fun _ hp => hB.cell hp) rfl
  refine ⟨?_, ?_⟩
  · intro a w hB hF hd
    exact step_move (guard_none rfl) rfl _ rfl ((hF.other 7 rfl).trans S.v7)
  refine ⟨?_, ?_⟩
  · intro a w hB hF hd
    have h0 : a.tmps.getD 77 undef = .agg (accC Z A1 k c1) := hd.1 rfl
    have h1 : a.tmps.getD 78 undef = .slice B1 m d1 := hd.2.1 rfl
    have k1 := S.r1.keep (w' := w) fun _ hp => hB.cell hp
    refine step_call (guard_none rfl) rfl _ _ (rf_call_run Try.func17 (by kernel_rfl) (by kernel_rfl) _ _ rfl) ?_
    simp only [List.map_toArray, List.map_cons, List.map_nil, Act.eval, h0, h1]
    exact (may_any Z A1 k c1 B1 m d1 bs _ k1.2.1 (S.s1.below hB) (Nat.le_trans k1.2.2.1 k1.2.2.2) S.sm).mono (by rintro e w1 ⟨rfl, hb⟩; exact ⟨_, rfl, hb, by rw [S.eV]; rfl⟩)
  refine ⟨?_, ?_⟩
  · intro a w hB hF hd
    exact step_move (guard_none rfl) rfl _ rfl ((hF.other 1 rfl).trans S.v1)
  refine ⟨?_, ?_⟩
  · intro a w hB hF hd
    exact step_move (guard_none rfl) rfl _ rfl ((hF.other 17 rfl).trans S.v17)
  refine ⟨?_, ?_⟩
  · intro a w hB hF hd
    have h0 : a.tmps.getD 80 undef = .slice (some ⟨b2, o2, none⟩) n d := hd.1 rfl
    have h1 : a.tmps.getD 81 undef = .int .i64 (j : Int) := hd.2.1 rfl
    exact step_iaddrA (guard_none rfl) rfl _ _ rfl b2 o2 n d j h0 h1 S.lt rfl
  refine ⟨?_, ?_⟩
  · intro a w hB hF hd
    have h0 : a.tmps.getD 82 undef = .pointer (some ⟨b2, o2 + j * 13, none⟩) := hd.1 rfl
    exact step_accA (guard_none rfl) rfl _ rfl b2 _ h0 (S.r2.keep fun _ hp => hB.cell hp) rfl
  refine ⟨?_, ?_⟩
  · intro a w hB hF hd
    exact step_move (guard_none rfl) rfl _ rfl ((hF.other 2 rfl).trans S.v2)
  refine ⟨?_, ?_⟩
  · intro a w hB hF hd
    have h0 : a.tmps.getD 83 undef = .agg (accC Z A2 k c2) := hd.1 rfl
    have h1 : a.tmps.getD 84 undef = .slice B2 m d2 := hd.2.1 rfl
    have k2 := S.r2.keep (w' := w) fun _ hp => hB.cell hp
    refine step_call (guard_none rfl) rfl _ _ (rf_call_run Try.func18 (by kernel_rfl) (by kernel_rfl) _ _ rfl) ?_
    simp only [List.map_toArray, List.map_cons, List.map_nil, Act.eval, h0, h1]
    exact (raccmay_any Z A2 k c2 B2 m d2 bs _ k2.2.1 (S.s2.below hB) (Nat.le_trans k2.2.2.1 k2.2.2.2) S.sm).mono (by rintro e w1 ⟨rfl, hb⟩; exact ⟨_, rfl, hb, by rw [S.eV]; rfl⟩)
  refine ⟨?_, ?_⟩
  · intro a w hB hF hd
    have h0 : a.tmps.getD 79 undef = .bool V := hd.1 rfl
    have h1 : a.tmps.getD 85 undef = .bool V := hd.2.1 rfl
    exact step_neqB (guard_none rfl) rfl _ _ rfl V h0 h1 rfl
  trivial
theorem ac11_any {Q : Exit → Act → World → Prop} {l : List Oper} (hl : opsOf 11 Try.f3 = l)
    (hend : ∀ (w : World), Below w0.heap.size w0 w → Q .normal (putAll a0 [(74, .slice (some ⟨b1, o1, none⟩) n c), (75, .int .i64 (j : Int)), (76, .pointer (some ⟨b1, o1 + j * 13, none⟩)), (77, .agg (accC Z A1 k c1)), (78, .slice B1 m d1), (79, .bool V), (80, .slice (some ⟨b2, o2, none⟩) n d), (81, .int .i64 (j : Int)), (82, .pointer (some ⟨b2, o2 + j * 13, none⟩)), (83, .agg (accC Z A2 k c2)), (84, .slice B2 m d2), (85, .bool V), (86, .bool false)]) w) :
    (Code.region 11 l.toArray true).wp Try.prog Q a0 w0 := by
  subst hl
  refine region_facts (ac11F b1 o1 b2 o2 n c d j Z A1 A2 k c1 c2 B1 B2 m d1 d2 V) ac11D 104 S.size rfl (by kernel_rfl) (by kernel_rfl) (ac11F_mono _ _ _ _ _ _ _ _ _ _ _ _ _ _ _ _ _ _ _ _) (ac11_ok S) fun a w hB hF h => ?_
  rw [frame_is hF [(74, .slice (some ⟨b1, o1, none⟩) n c), (75, .int .i64 (j : Int)), (76, .pointer (some ⟨b1, o1 + j * 13, none⟩)), (77, .agg (accC Z A1 k c1)), (78, .slice B1 m d1), (79, .bool V), (80, .slice (some ⟨b2, o2, none⟩) n d), (81, .int .i64 (j : Int)), (82, .pointer (some ⟨b2, o2 + j * 13, none⟩)), (83, .agg (accC Z A2 k c2)), (84, .slice B2 m d2), (85, .bool V), (86, .bool false)]
    ⟨h 0 (some 74) rfl, h 1 (some 75) rfl, h 2 (some 76) rfl, h 3 (some 77) rfl, h 4 (some 78) rfl, h 5 (some 79) rfl, h 6 (some 80) rfl, h 7 (some 81) rfl, h 8 (some 82) rfl, h 9 (some 83) rfl, h 10 (some 84) rfl, h 11 (some 85) rfl, h 12 (some 86) rfl, trivial⟩ (by rfl) (by rfl)]
  exact hend w hB
end

end Go.Proofs.Ytjgjbhbpndjnnaa

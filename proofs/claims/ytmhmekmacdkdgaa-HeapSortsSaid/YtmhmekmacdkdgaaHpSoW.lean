/-
  Walk: HeapSorts.
-/
import Derived.Test.YtmhmekmacdkdgaaHpSoR
import Derived.Test.YtmhmekmacdkdgaaHpAwake
import Derived.Test.YtmhmekmacdkdgaaRBef
import Derived.Deep.DeepCutAuto
import Derived.Deep.CutBlock
namespace Go.Proofs.Ytmhmekmacdkdgaa
open Go.RowKit

def SoOk (x : It) : Prop := itemB x = true ∧ 0 ≤ x.v ∧ x.v ≤ 59
def vsum : List It → Int
  | [] => 0
  | x :: r => x.v + vsum r
theorem vsum_ins (x : It) (xs : List It) : vsum (ins x xs) = x.v + vsum xs := by
  induction xs with
  | nil => rfl
  | cons y r ih =>
    unfold ins
    split
    · rfl
    · simp only [vsum, ih]; omega
theorem vsum_bd : ∀ (xs : List It), (∀ y ∈ xs, SoOk y) → 0 ≤ vsum xs ∧ vsum xs ≤ 59 * (xs.length : Int)
  | [], _ => by simp [vsum]
  | x :: r, h => by
    have ih := vsum_bd r fun y hy => h y (List.mem_cons_of_mem _ hy)
    obtain ⟨_, h1, h2⟩ := h x (List.mem_cons_self ..)
    simp only [vsum, List.length_cons]
    omega
theorem before_lt {x y : It} (h : lt4 x y = false) : beforeB x y = false := by
  rw [lt4_no] at h
  exact decide_eq_false (by omega)
structure SoS (w : World) (bs : List Nat) (g n : Nat) (S : Int) (xs : List It) (wr : World) : Prop where
  hp : HpK w bs g 8192 xs wr
  len : xs.length = n
  ok : ∀ y ∈ xs, SoOk y
  sum : vsum xs = S
theorem SoS.bd {w wr : World} {bs : List Nat} {g n : Nat} {S : Int} {xs : List It} (h : SoS w bs g n S xs wr) : 0 ≤ S ∧ S ≤ 59 * (n : Int) := by
  have := vsum_bd xs h.ok
  rw [h.sum, h.len] at this
  exact this
theorem SoS.first {w wr : World} {bs : List Nat} {g n : Nat} {S : Int} {xs : List It} (h : SoS w bs g n S xs wr) (h0 : 0 < n) : ∃ x, nthI xs 0 = x ∧ x ∈ xs ∧ SoOk x ∧ (∀ y ∈ xs.tail, SoOk y) ∧ (∀ y ∈ xs.tail, beforeB y x = false) ∧ xs.tail.length = n - 1 ∧ vsum xs.tail = S - x.v := by
  cases xs with
  | nil => have := h.len; simp at this; omega
  | cons x r =>
    have hl := h.len
    have hs := h.sum
    simp only [vsum] at hs
    exact ⟨x, rfl, List.mem_cons_self .., h.ok x (List.mem_cons_self ..), fun y hy => h.ok y (List.mem_cons_of_mem _ hy), fun y hy => before_lt (h.hp.srd.head y hy), by simp at hl ⊢; omega, by simp only [List.tail_cons]; omega⟩
/-- A block of the law's own is written. -/
theorem HpK.rowed {w0 w : World} {bs : List Nat} {g : Nat} {m : Int} {xs : List It} (h : HpK w0 bs g m xs w) {b : Nat} (hb : b ∈ bs) (hlt : w0.heap.size ≤ b) (cs : Array Value) : HpK w0 bs g m xs (w.setRow b cs) := by
  obtain ⟨gs, k1, k2, k3, k4⟩ := h
  refine ⟨gs, k1.same (fun i hi => setRow_other w b i cs (fun e => (k2 i hi).2 (e ▸ hb))) (by simp), k2, below_row k3 hlt cs, fun i hi => by simpa using k4 i hi⟩

set_option maxRecDepth 100000 in
set_option maxHeartbeats 1000000 in
theorem heapsorts_any (A : Option Addr) (n c : Nat) (ps : List Int) (w : World) (hr : Ints w A n ps) (hn : n ≤ maxLen) (_ : ∀ x ∈ ps, (Lit.int .i64 x).wf = true) :
    Calls Try.prog 4 #[.slice A n c] w fun e w' => e = .returned (.bool true) ∧ Below w.heap.size w w' := by
  unfold maxLen at hn
  have HR := Lib.hid hr
  clear hr
  have HA := Lib.hid (awake_any w)
  obtain ⟨k, hk, hkn, hk60⟩ : ∃ k : Nat, min (n : Int) 60 = k ∧ k ≤ n ∧ k ≤ 60 := ⟨min n 60, by omega, by omega, by omega⟩
  have HK0 := Lib.hid hk
  clear hk
  go_enter Try.func4, Try.ntmps4
  go_wp2_with fail
  refine (HA.out).mono ?_; rintro e w1 ⟨rfl, b1⟩
  have H1 := Lib.hid b1
  clear b1 HA
  go_wp2_with fail
  refine (hnew_ok 8192 w1 (by omega)).mono ?_
  rintro e w2 h1
  obtain ⟨g, rfl, hk⟩ := hpK_new h1 H1.out
  have HT : Hid (SoS w [] g 0 0 [] w2) := ⟨hk, rfl, (fun y h => by cases h), rfl⟩
  clear h1 hk H1
  go_upto_region 7 with (go_at_call 10; refine (num0_any _ _).mono ?_; rintro e w' ⟨rfl, rfl⟩)
  rw [HK0.out]
  clear HK0
  go_upto_block 0 with fail
  go_cut [6] (fun s wx => ∃ (S : Int) (xs : List It), s = .int .i64 S ∧ Hid (SoS w [] g k S xs wx))
  case first =>
    go_wp2_with fail
    go_loopw [6, 7] (fun s i wr => ∃ (j : Nat) (S : Int) (xs : List It), j ≤ k ∧ i = .int .i64 j ∧ s = .int .i64 S ∧ Hid (SoS w [] g j S xs wr)) (fun _ i _ => k - (intOf i).toNat)
    case atStart => exact ⟨0, 0, [], Nat.zero_le _, rfl, rfl, HT⟩
    case round =>
      clear HT
      obtain ⟨j, S, xs, hj, rfl, rfl, HT⟩ := hrel
      by_cases hlt : j < k
      · obtain ⟨b, f, rfl, hc⟩ := HR.out.2 (by omega)
        have hcx : wr.cell? ⟨b, f + j, none⟩ = some (.int .i64 (nth ps j)) := ((HT.out.hp.keep).cell (block_lt_of_cell (hc j (by omega)))).trans (hc j (by omega))
        clear hc
        generalize nth ps j = x at hcx
        have hbd := HT.out.bd
        obtain ⟨r1, hr1, r1a, r1b⟩ : ∃ r1, bits .and .i64 (j : Int) 3 = r1 ∧ 0 ≤ r1 ∧ r1 ≤ 3 := ⟨_, rfl, by rw [mask3]; omega, by rw [mask3]; omega⟩
        obtain ⟨r0, hr0, r0a, r0b⟩ : ∃ r0, bits .and .i64 x 127 = r0 ∧ 0 ≤ r0 ∧ r0 ≤ 127 := ⟨_, rfl, by rw [mask127]; omega, by rw [mask127]; omega⟩
        obtain ⟨r2, hr2, r2a, r2b⟩ : ∃ r2, bits .and .i64 (x / 128) 31 = r2 ∧ 0 ≤ r2 ∧ r2 ≤ 31 := ⟨_, rfl, by rw [mask31]; omega, by rw [mask31]; omega⟩
        obtain ⟨q, hq⟩ : ∃ q, 1 + r2 = q := ⟨_, rfl⟩
        obtain ⟨t, ht⟩ : ∃ t, r0 - 60 = t := ⟨_, rfl⟩
        have hz : SoOk ⟨r1, t, q, (j : Int)⟩ := ⟨itemB_iff.2 (by simp only; omega), by show (0 : Int) ≤ (j : Int); omega, by show (j : Int) ≤ 59; omega⟩
        have HZ := Lib.hid hz
        have HE : Hid (wr.cell? ⟨b, f + j, none⟩ = some (.int .i64 x) ∧ bits .and .i64 (j : Int) 3 = r1 ∧ bits .and .i64 x 127 = r0 ∧ r0 - 60 = t ∧ (-60 ≤ t ∧ t ≤ 67) ∧ bits .and .i64 (x / 128) 31 = r2 ∧ 1 + r2 = q ∧ (1 ≤ q ∧ q ≤ 32)) := ⟨hcx, hr1, hr0, ht, by omega, hr2, hq, by omega⟩
        clear hcx hr1 hr2 hr0 ht hq hz r1a r1b r2a r2b r0a r0b
        go_upto_region 11 with fail
        refine hso11_any (g := g) (b := b) (f := f) (n := n) (c := c) (k1 := j) (B := wr.heap.size) (x := x) (r1 := r1) (r0 := r0) (t := t) (r2 := r2) (q := q) ⟨rfl, rfl, rfl, rfl, rfl, HE.out.1, by omega, HE.out.2.1, HE.out.2.2.1, HE.out.2.2.2.1, HE.out.2.2.2.2.1, HE.out.2.2.2.2.2.1, HE.out.2.2.2.2.2.2.1, HE.out.2.2.2.2.2.2.2⟩ (by kernel_rfl) ?_
        intro e w9 hB9 h9
        have HC := Lib.hid (HT.out.hp.push1 hB9 h9.1 h9.2 HZ.out.1 (by have := HT.out.len; omega) (by omega))
        clear hB9 h9 HE
        simp only [putAll, Act.put, List.setIfInBounds_toArray, List.set_cons_succ, List.set_cons_zero, List.drop_succ_cons, List.drop_zero]
        go_wp2_with fail
        refine (HC.out).mono ?_
        rintro e w3 ⟨rfl, h3, -⟩
        have HN : Hid (SoS w [] g (j + 1) (S + j) (ins ⟨r1, t, q, (j : Int)⟩ xs) w3) := ⟨h3, by rw [ins_len, HT.out.len], fun y hy => by
          rcases List.mem_cons.1 ((ins_perm _ xs).mem_iff.1 hy) with rfl | hy
          · exact HZ.out
          · exact HT.out.ok y hy, by rw [vsum_ins, HT.out.sum]; show (j : Int) + S = S + j; omega⟩
        clear h3 HC
        go_wp2_with (go_at_call 10; refine (num0_any _ _).mono ?_; rintro e w' ⟨rfl, rfl⟩)
        go_roundw
        case rel => exact ⟨j + 1, S + j, _, by omega, by go_num, rfl, HN⟩
        case measure => simp [intOf]; omega
      · have hjk : j = k := by omega
        subst hjk
        go_wp2_with fail
        go_meet
        exact ⟨S, xs, rfl, HT⟩
  case rest =>
    obtain ⟨S0, xs0, rfl, HT0⟩ := hcut
    clear HT
    have HP0 : Hid (∀ o, HpK w [wc.heap.size] g 8192 xs0 (wc.alloc o)) := fun o => HT0.out.hp.fresh o
    have hw9 : w.heap.size ≤ wc.heap.size := HT0.out.hp.size
    have HI : Hid (SoS w [wc.heap.size] g k S0 xs0 (wc.alloc (.cells #[.int .i64 0, .int .i64 0, .int .i64 0, .int .i64 0] 34)) ∧ Has (wc.alloc (.cells #[.int .i64 0, .int .i64 0, .int .i64 0, .int .i64 0] 34)) wc.heap.size 34 #[.int .i64 0, .int .i64 0, .int .i64 0, .int .i64 0]) := ⟨⟨HP0.out _, HT0.out.len, HT0.out.ok, HT0.out.sum⟩, Has.made _ _ _⟩
    clear HT0 HP0
    go_wp2_with fail
    generalize wc.alloc (.cells #[.int .i64 0, .int .i64 0, .int .i64 0, .int .i64 0] 34) = v0 at HI ⊢
    generalize wc.heap.size = p9 at HI hw9 ⊢
    go_loopw [6, 10] (fun s i wr => ∃ (j : Nat) (S : Int) (xs : List It) (last : It), j ≤ k ∧ i = .int .i64 j ∧ s = .int .i64 S ∧ Hid (SoS w [p9] g (k - j) S xs wr) ∧ Hid (Has wr p9 34 (itA last)) ∧ Hid (j = 0 ∨ ∀ y ∈ xs, beforeB y last = false)) (fun _ i _ => k - (intOf i).toNat)
    case atStart => exact ⟨0, S0, xs0, zeroIt, Nat.zero_le _, rfl, rfl, HI.out.1, HI.out.2, .inl rfl⟩
    case round =>
      clear HI
      obtain ⟨j, S, xs, last, hj, rfl, rfl, HT, HL, HBF⟩ := hrel
      by_cases hlt : j < k
      · obtain ⟨x, hx, hmem, ⟨hxi, hv0, hv1⟩, hok, hnx, hlen, hsum⟩ := HT.out.first (by omega)
        have hbd := HT.out.bd
        have hlx := HT.out.len
        have HC := Lib.hid (HT.out.hp.popV x hx xs.tail rfl (by omega) (by omega))
        have HN : Hid (∀ w', HpK w [p9] g 8192 xs.tail w' → SoS w [p9] g (k - (j + 1)) (S - x.v) xs.tail w') := fun w' h => ⟨h, by rw [hlen]; omega, hok, hsum⟩
        have HNX := Lib.hid hnx
        have HBX : Hid (j = 0 ∨ beforeB x last = false) := HBF.out.imp id fun h => h x hmem
        clear hx hok hnx hlen hlx hsum hmem hxi HBF
        go_wp2_with fail
        refine (HC.out).mono ?_
        rintro e w3 ⟨rfl, h3, h3b⟩
        have H3 : Hid (∀ o, HpK w [p9] g 8192 xs.tail (w3.alloc o)) := fun o => h3.below ((Below.refl _ _).alloc (Nat.le_refl _) o)
        have HL3 : Hid (∀ o, Has (w3.alloc o) p9 34 (itA last)) := fun o => (show Has w3 _ _ _ from (h3b _ (.inl (by simp))).trans HL.out).alloc o
        have hp9 : p9 < w3.heap.size := (show Has w3 p9 34 (itA last) from (h3b _ (.inl (by simp))).trans HL.out).lt
        have HX3 := Lib.hid (Has.made w3 34 (itA x))
        clear h3 h3b HC HL
        go_upto_region 20 with (refine store_hasIt rfl _ _ rfl w3.heap.size (z := x) rfl rfl (Has.made _ _ _) rfl ?_; rw [World.setRow_alloc_new])
        have H4 := Lib.hid (H3.out (.cells (itA x) 34))
        have HL4 := Lib.hid (HL3.out (.cells (itA x) 34))
        generalize w3.alloc (.cells (itA x) 34) = w4 at HX3 H4 HL4 ⊢
        generalize w3.heap.size = p11 at HX3 hp9 ⊢
        clear H3 HL3
        by_cases hj0 : j = 0
        · subst hj0
          have hc11 : (w4.setRow p9 (itA x)).cell? ⟨p11, 3, none⟩ = some (.int .i64 x.v) := (HX3.out.rowFar (by omega) _).cell 3
          have HN2 : Hid (SoS w [p9] g (k - (0 + 1)) (S - x.v) xs.tail (w4.setRow p9 (itA x)) ∧ Has (w4.setRow p9 (itA x)) p9 34 (itA x)) := ⟨HN.out _ (H4.out.rowed (List.mem_cons_self ..) hw9 _), HL4.out.row _⟩
          go_wp2_with (first | (go_at_call 10; refine (num0_any _ _).mono ?_; rintro e w' ⟨rfl, rfl⟩) | (refine load_hasIt rfl _ rfl p11 (y := x) rfl HX3.out ?_) | (refine store_hasIt rfl _ _ rfl p9 (z := x) rfl rfl HL4.out rfl ?_))
          go_roundw
          case rel => exact ⟨0 + 1, _, xs.tail, x, by omega, by go_num, rfl, HN2.out.1, HN2.out.2, .inr HNX.out⟩
          case measure => simp [intOf]; omega
        · have HBY : Hid (beforeB x last = false) := HBX.out.resolve_left hj0
          have hjp : (0 : Int) < (j : Int) := by omega
          have x0 : w4.cell? ⟨p11, 0, none⟩ = some (.int .i64 x.s) := HX3.out.cell 0
          have x1 : w4.cell? ⟨p11, 1, none⟩ = some (.int .i64 x.t) := HX3.out.cell 1
          have x2 : w4.cell? ⟨p11, 2, none⟩ = some (.int .i64 x.q) := HX3.out.cell 2
          have x3 : w4.cell? ⟨p11, 3, none⟩ = some (.int .i64 x.v) := HX3.out.cell 3
          have l0 : w4.cell? ⟨p9, 0, none⟩ = some (.int .i64 last.s) := HL4.out.cell 0
          have l1 : w4.cell? ⟨p9, 1, none⟩ = some (.int .i64 last.t) := HL4.out.cell 1
          have l2 : w4.cell? ⟨p9, 2, none⟩ = some (.int .i64 last.q) := HL4.out.cell 2
          have l3 : w4.cell? ⟨p9, 3, none⟩ = some (.int .i64 last.v) := HL4.out.cell 3
          go_wp2_with (go_at_call 10; refine (num0_any _ _).mono ?_; rintro e w' ⟨rfl, rfl⟩)
          clear x0 x1 x2 x3 l0 l1 l2 l3
          refine (rbefore_any x last _).mono ?_
          rintro e w5 ⟨rfl, hb5⟩
          rw [HBY.out]
          have HX5 := Lib.hid (HX3.out.below hb5 HX3.out.lt)
          have HL5 := Lib.hid (HL4.out.below hb5 HL4.out.lt)
          have H5 := Lib.hid (H4.out.below hb5)
          clear hb5 HX3 HL4 H4
          have hc11 : (w5.setRow p9 (itA x)).cell? ⟨p11, 3, none⟩ = some (.int .i64 x.v) := (HX5.out.rowFar (by omega) _).cell 3
          have HN2 : Hid (SoS w [p9] g (k - (j + 1)) (S - x.v) xs.tail (w5.setRow p9 (itA x)) ∧ Has (w5.setRow p9 (itA x)) p9 34 (itA x)) := ⟨HN.out _ (H5.out.rowed (List.mem_cons_self ..) hw9 _), HL5.out.row _⟩
          go_wp2_with (first | (refine load_hasIt rfl _ rfl p11 (y := x) rfl HX5.out ?_) | (refine store_hasIt rfl _ _ rfl p9 (z := x) rfl rfl HL5.out rfl ?_))
          go_roundw
          case rel => exact ⟨j + 1, _, xs.tail, x, by omega, by go_num, rfl, HN2.out.1, HN2.out.2, .inr HNX.out⟩
          case measure => simp [intOf]; omega
      · have hjk : j = k := by omega
        subst hjk
        have HLn := Lib.hid HT.out.hp.len
        have hl0 : xs.length = 0 := by rw [HT.out.len]; omega
        have hS : S = 0 := by
          obtain rfl : xs = [] := List.length_eq_zero_iff.1 hl0
          exact HT.out.sum.symm
        rw [hl0] at HLn
        have HE := Lib.hid HT.out.hp.keep
        subst hS
        clear hl0
        go_wp2_with (go_at_call 21; refine (HLn.out).mono ?_; rintro e w' ⟨rfl, rfl⟩)
        go_ret
        exact ⟨rfl, HE.out⟩

end Go.Proofs.Ytmhmekmacdkdgaa

/-
  Walk: HeapTies.
-/
import Derived.Test.YtmhmekmacdkdgaaHpTiR
import Derived.Test.YtmhmekmacdkdgaaHpAwake
import Derived.Deep.DeepCutAuto
import Derived.Deep.CutBlock
namespace Go.Proofs.Ytmhmekmacdkdgaa
open Go.RowKit

/-- What HeapTies pushes; the number by which it asks. -/
def TiOk (x : It) : Prop := x.t = 0 ∧ 0 ≤ x.s ∧ x.s ≤ 1 ∧ 1 ≤ x.q ∧ x.q ≤ 2 ∧ 0 ≤ x.v ∧ x.v ≤ 3
def tiV (x : It) : Int := x.q * 100 + x.s * 10 + x.v
theorem tiOk_item {x : It} (h : TiOk x) : itemB x = true := by obtain ⟨h1, h2, h3, h4, h5, h6, h7⟩ := h; exact itemB_iff.2 (by omega)
theorem tiOk_ins {x : It} {xs : List It} (hx : TiOk x) (h : ∀ y ∈ xs, TiOk y) : ∀ y ∈ ins x xs, TiOk y := fun y hy => by
  rcases List.mem_cons.1 ((ins_perm x xs).mem_iff.1 hy) with rfl | hy
  · exact hx
  · exact h y hy
theorem tiV_le {x y : It} (hx : TiOk x) (hy : TiOk y) (h : lt4 y x = false) : tiV x ≤ tiV y := by
  obtain ⟨x1, x2, x3, x4, x5, x6, x7⟩ := hx
  obtain ⟨y1, y2, y3, y4, y5, y6, y7⟩ := hy
  rw [lt4_no] at h
  unfold tiV
  omega
/-- The heap in the midst of the pops: nothing that is left comes ahead of what was last told. -/
structure TiS (w : World) (g n : Nat) (L : Int) (xs : List It) (wr : World) : Prop where
  hp : HpK w [] g 100 xs wr
  len : xs.length = n
  ok : ∀ y ∈ xs, TiOk y
  le : ∀ y ∈ xs, L ≤ tiV y
theorem TiS.first {w wr : World} {g n : Nat} {L : Int} {xs : List It} (h : TiS w g n L xs wr) (h0 : 0 < n) : ∃ x, nthI xs 0 = x ∧ TiOk x ∧ L ≤ tiV x ∧ (∀ y ∈ xs.tail, TiOk y) ∧ (∀ y ∈ xs.tail, tiV x ≤ tiV y) ∧ xs.tail.length = n - 1 := by
  cases xs with
  | nil => have := h.len; simp at this; omega
  | cons x r =>
    have hl := h.len
    have hx := h.ok x (List.mem_cons_self ..)
    exact ⟨x, rfl, hx, h.le x (List.mem_cons_self ..), fun y hy => h.ok y (List.mem_cons_of_mem _ hy), fun y hy => tiV_le hx (h.ok y (List.mem_cons_of_mem _ hy)) (h.hp.srd.head y hy), by simp at hl ⊢; omega⟩

set_option maxRecDepth 100000 in
set_option maxHeartbeats 1000000 in
theorem heapties_any (A : Option Addr) (n c : Nat) (ps : List Int) (w : World) (hr : Ints w A n ps) (hn : n ≤ maxLen) (_ : ∀ x ∈ ps, (Lit.int .i64 x).wf = true) :
    Calls Try.prog 6 #[.slice A n c] w fun e w' => e = .returned (.bool true) ∧ Below w.heap.size w w' := by
  unfold maxLen at hn
  have HR := Lib.hid hr
  clear hr
  have HA := Lib.hid (awake_any w)
  obtain ⟨k, hk, hkn, hk40⟩ : ∃ k : Nat, min (n : Int) 40 = k ∧ k ≤ n ∧ k ≤ 40 := ⟨min n 40, by omega, by omega, by omega⟩
  have HK0 := Lib.hid hk
  clear hk
  go_enter Try.func6, Try.ntmps6
  go_wp2_with fail
  refine (HA.out).mono ?_; rintro e w1 ⟨rfl, b1⟩
  have H1 := Lib.hid b1
  clear b1 HA
  go_wp2_with fail
  refine (hnew_ok 100 w1 (by omega)).mono ?_
  rintro e w2 h1
  obtain ⟨g, rfl, hk⟩ := hpK_new h1 H1.out
  have HT : Hid (TiS w g 0 (-1) [] w2) := ⟨hk, rfl, (fun y h => by cases h), (fun y h => by cases h)⟩
  clear h1 hk H1
  go_upto_region 7 with (go_at_call 10; refine (num0_any _ _).mono ?_; rintro e w' ⟨rfl, rfl⟩)
  rw [HK0.out]
  clear HK0
  go_upto_block 0 with fail
  go_cut [] (fun wx => ∃ xs, Hid (TiS w g k (-1) xs wx))
  case first =>
    go_wp2_with fail
    go_loopw [6] (fun i wr => ∃ (j : Nat) (xs : List It), j ≤ k ∧ i = .int .i64 j ∧ Hid (TiS w g j (-1) xs wr)) (fun i _ => k - (intOf i).toNat)
    case atStart => exact ⟨0, [], Nat.zero_le _, rfl, HT⟩
    case round =>
      clear HT
      obtain ⟨j, xs, hj, rfl, HT⟩ := hrel
      by_cases hlt : j < k
      · obtain ⟨b, f, rfl, hc⟩ := HR.out.2 (by omega)
        have hcx : wr.cell? ⟨b, f + j, none⟩ = some (.int .i64 (nth ps j)) := ((HT.out.hp.keep).cell (block_lt_of_cell (hc j (by omega)))).trans (hc j (by omega))
        clear hc
        generalize nth ps j = x at hcx
        obtain ⟨r1, hr1, r1a, r1b⟩ : ∃ r1, bits .and .i64 x 1 = r1 ∧ 0 ≤ r1 ∧ r1 ≤ 1 := ⟨_, rfl, by rw [mask1]; omega, by rw [mask1]; omega⟩
        obtain ⟨r2, hr2, r2a, r2b⟩ : ∃ r2, bits .and .i64 (x / 2) 1 = r2 ∧ 0 ≤ r2 ∧ r2 ≤ 1 := ⟨_, rfl, by rw [mask1]; omega, by rw [mask1]; omega⟩
        obtain ⟨v, hv, va, vb⟩ : ∃ v, bits .and .i64 (x / 4) 3 = v ∧ 0 ≤ v ∧ v ≤ 3 := ⟨_, rfl, by rw [mask3]; omega, by rw [mask3]; omega⟩
        obtain ⟨q, hq⟩ : ∃ q, 1 + r2 = q := ⟨_, rfl⟩
        have hz : TiOk ⟨r1, 0, q, v⟩ := ⟨rfl, r1a, r1b, by show 1 ≤ q; omega, by show q ≤ 2; omega, va, vb⟩
        have HZ := Lib.hid hz
        have HE : Hid (wr.cell? ⟨b, f + j, none⟩ = some (.int .i64 x) ∧ bits .and .i64 x 1 = r1 ∧ bits .and .i64 (x / 2) 1 = r2 ∧ 1 + r2 = q ∧ (1 ≤ q ∧ q ≤ 2) ∧ bits .and .i64 (x / 4) 3 = v) := ⟨hcx, hr1, hr2, hq, by omega, hv⟩
        clear hcx hr1 hr2 hv hq hz r1a r1b r2a r2b va vb
        go_upto_region 10 with fail
        refine hti10_any (g := g) (b := b) (f := f) (n := n) (c := c) (k1 := j) (B := wr.heap.size) (x := x) (r1 := r1) (r2 := r2) (q := q) (v := v) ⟨rfl, rfl, rfl, rfl, rfl, HE.out.1, by omega, HE.out.2.1, HE.out.2.2.1, HE.out.2.2.2.1, HE.out.2.2.2.2.1, HE.out.2.2.2.2.2⟩ (by kernel_rfl) ?_
        intro e w9 hB9 h9
        have HC := Lib.hid (HT.out.hp.push1 hB9 h9.1 h9.2 (tiOk_item HZ.out) (by have := HT.out.len; omega) (by omega))
        clear hB9 h9 HE
        simp only [putAll, Act.put, List.setIfInBounds_toArray, List.set_cons_succ, List.set_cons_zero, List.drop_succ_cons, List.drop_zero]
        go_wp2_with fail
        refine (HC.out).mono ?_
        rintro e w3 ⟨rfl, h3, -⟩
        have HN : Hid (TiS w g (j + 1) (-1) (ins ⟨r1, 0, q, v⟩ xs) w3) := ⟨h3, by rw [ins_len, HT.out.len], tiOk_ins HZ.out HT.out.ok, fun y hy => by
          have := tiOk_ins HZ.out HT.out.ok y hy
          obtain ⟨h1, h2, h3, h4, h5, h6, h7⟩ := this
          unfold tiV; omega⟩
        clear h3 HC
        go_wp2_with (go_at_call 10; refine (num0_any _ _).mono ?_; rintro e w' ⟨rfl, rfl⟩)
        go_roundw
        case rel => exact ⟨j + 1, _, by omega, by go_num, HN⟩
        case measure => simp [intOf]; omega
      · have hjk : j = k := by omega
        subst hjk
        go_wp2_with fail
        go_meet
        exact ⟨xs, HT⟩
  case rest =>
    obtain ⟨xs0, HT0⟩ := hcut
    clear HT
    go_wp2_with fail
    go_loopw [8, 9] (fun l i wr => ∃ (j : Nat) (L : Int) (xs : List It), j ≤ k ∧ i = .int .i64 j ∧ l = .int .i64 L ∧ -1 ≤ L ∧ L ≤ 1000 ∧ Hid (TiS w g (k - j) L xs wr)) (fun _ i _ => k - (intOf i).toNat)
    case atStart => exact ⟨0, -1, xs0, Nat.zero_le _, rfl, rfl, by omega, by omega, HT0⟩
    case round =>
      clear HT0
      obtain ⟨j, L, xs, hj, rfl, rfl, hL1, hL2, HT⟩ := hrel
      by_cases hlt : j < k
      · obtain ⟨x, hx, ⟨x1, x2, x3, x4, x5, x6, x7⟩, hle, hok, hnx, hlen⟩ := HT.out.first (by omega)
        unfold tiV at hle
        have hlx := HT.out.len
        have HC := Lib.hid (HT.out.hp.popV x hx xs.tail rfl (by omega) (by omega))
        have HN : Hid (∀ w', HpK w [] g 100 xs.tail w' → TiS w g (k - (j + 1)) (x.q * 100 + x.s * 10 + x.v) xs.tail w') := fun w' h => ⟨h, by rw [hlen]; omega, hok, hnx⟩
        clear hx hok hnx hlen hlx
        go_wp2_with fail
        refine (HC.out).mono ?_
        rintro e w3 ⟨rfl, h3, -⟩
        have HN2 : Hid (∀ o, TiS w g (k - (j + 1)) (x.q * 100 + x.s * 10 + x.v) xs.tail (w3.alloc o)) := fun o => HN.out _ (h3.below ((Below.refl _ _).alloc (Nat.le_refl _) o))
        clear h3 HC HN
        go_wp2_with (first | (go_at_call 10; refine (num0_any _ _).mono ?_; rintro e w' ⟨rfl, rfl⟩) | (refine store_hasIt rfl _ _ rfl w3.heap.size (z := x) rfl rfl (Has.made _ _ _) rfl ?_; rw [World.setRow_alloc_new]))
        go_roundw
        case rel => exact ⟨j + 1, _, xs.tail, by omega, by go_num, rfl, by omega, by omega, HN2.out _⟩
        case measure => simp [intOf]; omega
      · have hjk : j = k := by omega
        subst hjk
        have HL := Lib.hid HT.out.hp.len
        have hl0 : xs.length = 0 := by rw [HT.out.len]; omega
        rw [hl0] at HL
        have HE := Lib.hid HT.out.hp.keep
        clear hl0
        go_wp2_with fail
        refine (HL.out).mono ?_
        rintro e w' ⟨rfl, rfl⟩
        go_wp2_with fail
        go_ret
        exact ⟨rfl, HE.out⟩

end Go.Proofs.Ytmhmekmacdkdgaa

/-
  Walk: the laws' helper CopyConfig.
-/
import Derived.Test.YtecdeplcoggjkaaAdOwn
import Derived.Test.YtecdeplcoggjkaaAdRule
import Derived.Test.YtecdeplcoggjkaaRetRow
import Derived.Deep.Cut
namespace Go.Proofs.Ytecdeplcoggjkaa
open Go.RowKit

/-- Queries that came in: each with bounds that memory bears. -/
def QusR (w : World) (A : Option Addr) (n : Nat) (qs : List Qu) : Prop :=
  qs.length = n ∧ (0 < n → ∃ b o : Nat, A = some ⟨b, o, none⟩ ∧ ∀ i, i < n → ∃ B m d, QuAt w b (o + i * 6) (nthQ qs i) B m d ∧ (B = none → d = 0) ∧ m * 8 ≤ 140737488351232)
theorem QusR.qus {w : World} {A : Option Addr} {n : Nat} {qs : List Qu} (h : QusR w A n qs) : Qus w A n qs :=
  ⟨h.1, fun hn => by
    obtain ⟨b, o, e, hi⟩ := h.2 hn
    exact ⟨b, o, e, fun i hlt => by obtain ⟨B, m, d, hx, _⟩ := hi i hlt; exact ⟨B, m, d, hx⟩⟩⟩
theorem QusR.below {w w' : World} {A : Option Addr} {n : Nat} {qs : List Qu} (h : QusR w A n qs) (hb : Below w.heap.size w w') : QusR w' A n qs :=
  ⟨h.1, fun hn => by
    obtain ⟨b, o, e, hi⟩ := h.2 hn
    exact ⟨b, o, e, fun i hlt => by obtain ⟨B, m, d, hx, hy⟩ := hi i hlt; exact ⟨B, m, d, hx.below hb, hy⟩⟩⟩
theorem conf_one (A : Option Addr) (n c : Nat) (la ro se so : Int) : (#[.slice A n c, .int .i64 la, .int .i64 ro, .int .i64 se, .int .i64 so] : Array Value).all Value.oneCell' = true := by
  simp [Value.oneCell']

/-- CopyConfig in its loop. -/
structure CcS (w : World) (la ro se so : Int) (qs : List Qu) (j : Nat) (v : Value) (rs : List Rq) (wr : World) : Prop where
  box : Has wr w.heap.size 24 #[v, .int .i64 la, .int .i64 ro, .int .i64 se, .int .i64 so]
  res : Has wr (w.heap.size + 1) 24 #[.slice none 0 0, .int .i64 0, .int .i64 0, .int .i64 0, .int .i64 0]
  own : OwnQ wr (w.heap.size + 2) v rs
  qs : rs.map (·.q) = qs.take j
  keep : Below w.heap.size w wr
  size : w.heap.size + 2 ≤ wr.heap.size
theorem CcS.below {w : World} {la ro se so : Int} {qs : List Qu} {j : Nat} {v : Value} {rs : List Rq} {wr w2 : World} (h : CcS w la ro se so qs j v rs wr) (hb : Below wr.heap.size wr w2) : CcS w la ro se so qs j v rs w2 :=
  ⟨h.box.below hb h.box.lt, h.res.below hb h.res.lt, h.own.below hb, h.qs, h.keep.trans (hb.mono h.keep.size), Nat.le_trans h.size hb.size⟩
theorem CcS.made {w : World} {la ro se so : Int} {qs : List Qu} :
    CcS w la ro se so qs 0 (.slice none 0 0) [] ((w.alloc (.cells #[.slice none 0 0, .int .i64 la, .int .i64 ro, .int .i64 se, .int .i64 so] 24)).alloc (.cells #[.slice none 0 0, .int .i64 0, .int .i64 0, .int .i64 0, .int .i64 0] 24)) := by
  have hb := (Has.made w 24 #[.slice none 0 0, .int .i64 la, .int .i64 ro, .int .i64 se, .int .i64 so]).alloc (.cells #[.slice none 0 0, .int .i64 0, .int .i64 0, .int .i64 0, .int .i64 0] 24)
  have hr := Has.made (w.alloc (.cells #[.slice none 0 0, .int .i64 la, .int .i64 ro, .int .i64 se, .int .i64 so] 24)) 24 #[.slice none 0 0, .int .i64 0, .int .i64 0, .int .i64 0, .int .i64 0]
  have e : (w.alloc (.cells #[.slice none 0 0, .int .i64 la, .int .i64 ro, .int .i64 se, .int .i64 so] 24)).heap.size = w.heap.size + 1 := by simp
  rw [e] at hr
  exact ⟨hb, hr, OwnQ.nil _ _, rfl, ((Below.refl _ _).alloc (Nat.le_refl _) _).alloc (by simp) _, by simp⟩
/-- With a query more in its row. -/
theorem CcS.more {w : World} {la ro se so : Int} {qs : List Qu} {j : Nat} {v v' : Value} {rs : List Rq} {r : Rq} {wr w2 : World} (h : CcS w la ro se so qs j v rs wr) (ho : OwnQ w2 (w.heap.size + 2) v' (rs ++ [r])) (hb : Below (w.heap.size + 2) wr w2) (ht : qs.take (j + 1) = qs.take j ++ [r.q]) :
    CcS w la ro se so qs (j + 1) v' (rs ++ [r]) (w2.setCell ⟨w.heap.size, 0, none⟩ v') := by
  have h1 : Has w2 w.heap.size 24 #[v, .int .i64 la, .int .i64 ro, .int .i64 se, .int .i64 so] := h.box.below hb (by omega)
  have h2 := h.res.below hb (by omega)
  refine ⟨h1.put 0 v', h2.putFar (by simp) _, ho.set h1 (by decide) (by omega) 0 v', by rw [List.map_append, h.qs, ht]; rfl, (h.keep.trans (hb.mono (by omega))).setCell (Nat.le_refl _) _, ?_⟩
  have := hb.size
  have := h.size
  simp [World.setCell]
  omega

set_option maxRecDepth 100000 in
set_option maxHeartbeats 4000000 in
theorem copyconf_any (A : Option Addr) (n c : Nat) (qs : List Qu) (la ro se so : Int) (w : World) (hr : QusR w A n qs) (hn : n * 64 ≤ 140737488351232) :
    Calls Try.prog 7 #[.agg #[.slice A n c, .int .i64 la, .int .i64 ro, .int .i64 se, .int .i64 so]] w
      fun e w' => ∃ A' c', e = .returned (.agg #[.slice A' n c', .int .i64 la, .int .i64 ro, .int .i64 se, .int .i64 so]) ∧ Qus w' A' n qs ∧ Below w.heap.size w w' := by
  have HR := Lib.hid hr
  have HL := Lib.hid hr.1
  have hS0 : Hid (CcS w la ro se so qs 0 (.slice none 0 0) [] _) := CcS.made
  clear hr
  go_enter Try.func7, Try.ntmps7
  go_wp2_with fail
  go_loopw [4] (fun i wr => ∃ (j : Nat) (D : Option Addr) (e : Nat) (rs : List Rq), j ≤ n ∧ i = .int .i64 j ∧ Hid (CcS w la ro se so qs j (.slice D j e) rs wr)) (fun i _ => n - (intOf i).toNat)
  case atStart => exact ⟨0, none, 0, [], Nat.zero_le _, rfl, hS0⟩
  case round =>
    clear hS0
    obtain ⟨j, D, e, rs, hj, rfl, HP⟩ := hrel
    by_cases hlt : j < n
    · obtain ⟨b, o, rfl, hi⟩ := (HR.out.below HP.out.keep).2 (by omega)
      obtain ⟨B, m, d, hAt, hnil, hm8⟩ := hi j hlt
      clear hi
      have HTK : Hid (qs.take (j + 1) = qs.take j ++ [nthQ qs j]) := by
        have hjl : j < qs.length := by rw [HL.out]; exact hlt
        rw [Hid, List.take_succ_eq_append_getElem hjl]
        simp [nthQ, hjl]
      have hjn : (j : Int) < (n : Int) := by omega
      have hrl : rs.length = j := by have := congrArg List.length HP.out.qs; rw [List.length_map, List.length_take, HL.out] at this; omega
      have HRL := Lib.hid hrl; clear hrl
      generalize nthQ qs j = Z at hAt HTK
      have HAT := Lib.hid hAt; clear hAt
      have HNIL := Lib.hid hnil; clear hnil
      have hgb : w.heap.size < wr.heap.size := HP.out.box.lt
      go_upto_region 7 with (first | (refine load_qu rfl _ rfl b (o + j * 6) rfl HAT.out ?_) | (refine store_quN rfl _ _ rfl rfl rfl rfl ?_; intro w1 hb1 hs1 hh1; have HX1 := Lib.hid hh1; have HB1 := Lib.hid hb1; clear hb1 hh1))
      have HI1 := Lib.hid (HAT.out.2.1.below HB1.out)
      have hc4 : ∀ ob, (w1.alloc ob).cell? ⟨wr.heap.size, 4, none⟩ = some (.slice B m d) := fun ob => (HX1.out.alloc ob).cell 4
      have hm4 : ∀ wn : World, Below w1.heap.size (w1.alloc (.cells #[] 3)) wn → wn.frozen? ⟨wr.heap.size, 4, none⟩ = false ∧ wn.cell? ⟨wr.heap.size, 4, none⟩ = some (.slice B m d) := fun wn hb => ⟨((HX1.out.alloc _).below hb HX1.out.lt).mark 4, ((HX1.out.alloc _).below hb HX1.out.lt).cell 4⟩
      go_upto_region 8 with (refine app_bnd rfl _ _ rfl rfl (own_emptyI w1) rfl (HI1.out.below ((Below.refl _ _).alloc (Nat.le_refl _) _)) HNIL.out hm8 (by simp) ?_; intro A2 c2 wn hwn hbn; obtain ⟨hmn, hcn⟩ := hm4 wn hbn; have HWN := Lib.hid hwn; have HBN := Lib.hid hbn; clear hwn hbn hc4 hm4)
      have hXn := (HX1.out.alloc (.cells #[] 3)).below HBN.out HX1.out.lt
      have HB3 : Hid (Below wr.heap.size wr (wn.setCell ⟨wr.heap.size, 4, none⟩ (.slice A2 m c2))) := ((HB1.out.alloc HB1.out.size _).trans (HBN.out.mono HB1.out.size)).setCell (Nat.le_refl _) _
      have HX3 : Hid (Has (wn.setCell ⟨wr.heap.size, 4, none⟩ (.slice A2 m c2)) wr.heap.size 42 (quC Z A2 m c2)) := hXn.put 4 (.slice A2 m c2)
      have HO3 : Hid (OwnI (wn.setCell ⟨wr.heap.size, 4, none⟩ (.slice A2 m c2)) 0 (.slice A2 m c2) Z.bs) := (HWN.out.mono (Nat.zero_le _)).set hXn (by decide) 4 _
      generalize wn.setCell ⟨wr.heap.size, 4, none⟩ (.slice A2 m c2) = w3 at HB3 HX3 HO3 ⊢
      clear hXn hmn hcn HWN HBN HX1 HI1 HAT HB1 HNIL hm8
      have HP3 := Lib.hid (HP.out.below HB3.out)
      clear HP HB3
      have hcv : w3.cell? ⟨w.heap.size, 0, none⟩ = some (.slice D j e) := HP3.out.box.cell 0
      go_wp2_with (first
        | (refine load_quV rfl _ rfl wr.heap.size rfl HX3.out ?_)
        | (refine lit1q rfl _ rfl rfl ?_; intro wl hbl hvl; have HBL := Lib.hid hbl; have HVL := Lib.hid hvl; clear hbl hvl)
        | (refine app_quG rfl _ _ rfl rfl (HP3.out.own.below HBL.out) rfl (r := ⟨Z, A2, m, c2⟩) HVL.out (HO3.out.below HBL.out) (by rw [HRL.out]; omega) (by have := HBL.out.size; have := HP3.out.size; omega) ?_; intro v' w' hown hbb; obtain ⟨D2, e2, rfl, _⟩ := hown.form; have hc5 : w'.cell? ⟨w.heap.size, 0, none⟩ = some (.slice D j e) := ((HP3.out.below HBL.out).box.below hbb (by omega)).cell 0; have hm5 : w'.frozen? ⟨w.heap.size, 0, none⟩ = false := ((HP3.out.below HBL.out).box.below hbb (by omega)).mark 0; have HW := Lib.hid hown; clear hown; have HBB := Lib.hid hbb; clear hbb))
      have hown := HW.out
      have HP4 := Lib.hid (HP3.out.more hown ((HBL.out.mono (by have := HP3.out.size; omega)).trans HBB.out) HTK.out)
      rw [show (rs ++ [(⟨Z, A2, m, c2⟩ : Rq)]).length = j + 1 by simp [HRL.out]] at HP4
      clear hown HW HBB HBL HVL HO3 HX3 hc5 hm5 hcv HP3
      go_wp2_with fail
      go_roundw
      case rel => exact ⟨j + 1, D2, e2, _, by omega, by go_num, by simpa [HRL.out] using HP4⟩
      case measure => simp [intOf]; omega
    · have hjm : j = n := by omega
      subst hjm
      have hcc : ∀ i, wr.cell? ⟨w.heap.size, i, none⟩ = (#[.slice D j e, .int .i64 la, .int .i64 ro, .int .i64 se, .int .i64 so] : Array Value)[i]? := fun i => HP.out.box.cell i
      have HF := Lib.hid (HP.out.res.row #[.slice D j e, .int .i64 la, .int .i64 ro, .int .i64 se, .int .i64 so])
      go_wp2_with (refine wpList_store_row rfl 24 _ _ rfl (w.heap.size + 1) #[.slice D j e, .int .i64 la, .int .i64 ro, .int .i64 se, .int .i64 so] rfl rfl 24 _ HP.out.res Try.csize rfl (conf_one _ _ _ _ _ _ _) ?_)
      refine bodyPost_ret (ret_rowA rfl _ _ (w.heap.size + 1) 24 _ _ rfl HF.out Try.underlying24 rfl (by exact Try.csize)) rfl ?_
      have hq := (HP.out.own.rowS HP.out.res (by decide) (by omega) #[.slice D j e, .int .i64 la, .int .i64 ro, .int .i64 se, .int .i64 so]).qus
      rw [HP.out.qs, List.take_of_length_le (by rw [HL.out]; exact Nat.le_refl _)] at hq
      exact ⟨D, e, rfl, hq, below_row HP.out.keep (by omega) _⟩

end Go.Proofs.Ytecdeplcoggjkaa

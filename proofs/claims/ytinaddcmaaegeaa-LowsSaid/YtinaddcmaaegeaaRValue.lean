/-
  Walk: the reference's Value: what is told, by each Agg.
-/
import Derived.Test.YtinaddcmaaegeaaRAcc
import Derived.Test.YtinaddcmaaegeaaRRank
import Derived.Test.YtinaddcmaaegeaaLow2
namespace Go.Proofs.Ytinaddcmaaegeaa
open Go.RowKit

/-- What a query tells of an aggregate. -/
def tellV (q : Qu) (a : Ac) : Int :=
  if q.agg = 0 then a.n else if q.agg = 1 then (if wi a.s (-1125899906842624) 1125899906842624 then a.s else 0) else if q.agg = 2 then a.mn else if q.agg = 3 then a.mx
  else if q.agg = 4 then a.f.v else if q.agg = 5 then a.l.v else if q.agg = 6 then 0 else rankV q.bs a.h (place q.rank a.n) a.mx
def tellO (q : Qu) (a : Ac) : Bool := if q.agg = 1 then !wi a.s (-1125899906842624) 1125899906842624 else false
def tellH (q : Qu) (a : Ac) : List Int := if q.agg = 6 then a.h else []

section
variable (q : Qu) (B : Option Addr) (m d : Nat) (a : Ac) (A : Option Addr) (k c : Nat) (w : World) (hbs : Ints w B m q.bs) (hm : m ≤ maxLen) (ha : Ints w A k a.h) (hk : k ≤ maxLen)
include hbs hm ha hk
/-- The program's Value, whatever Agg it is. -/
theorem value_all (hg : wi q.agg 0 7 = true) (hok : askB q a = true) : Calls Try.prog 34 #[.agg (quC q B m d), .agg (accC a A k c)] w (OkOut (tellV q a) (tellO q a) (tellH q a) w) := by
  obtain ⟨g1, g2⟩ := wi_true hg
  have h8 : q.agg = 0 ∨ q.agg = 1 ∨ q.agg = 2 ∨ q.agg = 3 ∨ q.agg = 4 ∨ q.agg = 5 ∨ q.agg = 6 ∨ q.agg = 7 := by omega
  rcases h8 with h | h | h | h | h | h | h | h
  · have := value_count q B m d a A k c w hbs hm ha hk hok h
    simpa [tellV, tellO, tellH, h] using this
  · have := value_sum q B m d a A k c w hbs hm ha hk hok h
    simpa [tellV, tellO, tellH, h] using this
  · have := value_min q B m d a A k c w hbs hm ha hk hok h
    simpa [tellV, tellO, tellH, h] using this
  · have := value_max q B m d a A k c w hbs hm ha hk hok h
    simpa [tellV, tellO, tellH, h] using this
  · have := value_first q B m d a A k c w hbs hm ha hk hok h
    simpa [tellV, tellO, tellH, h] using this
  · have := value_last q B m d a A k c w hbs hm ha hk hok h
    simpa [tellV, tellO, tellH, h] using this
  · have := value_hist q B m d a A k c w hbs hm ha hk hok h
    simpa [tellV, tellO, tellH, h] using this
  · have := value_rank q B m d a A k c w hbs hm ha hk hok h
    simpa [tellV, tellO, tellH, h] using this
end

/-- The load of a whole aggregate, the operation asked first. -/
theorem load_accG {ops : Array Oper} {rest : List Oper} {op : Oper} {p : Act} {w : World} {Q : Exit → Act → World → Prop} (x : Operand) (ho : op.op = .load 29 x) (hw : Region.wanted op (yielded ops p.tmps) = true)
    (g : Nat) (hx : p.eval x = .pointer (some ⟨g, 0, none⟩)) {ac : Ac} {A : Option Addr} {k c : Nat} (hc : Has w g 29 (accC ac A k c))
    (h : wpList Try.prog ops Q rest (p.put op.dst (.agg (accC ac A k c))) w) : wpList Try.prog ops Q (op :: rest) p w := load_hasG hw x ho g hx hc h
/-- The load of a whole query out of a variable. -/
theorem load_quG {ops : Array Oper} {rest : List Oper} {op : Oper} {p : Act} {w : World} {Q : Exit → Act → World → Prop} (x : Operand) (ho : op.op = .load 53 x) (hw : Region.wanted op (yielded ops p.tmps) = true)
    (g : Nat) (hx : p.eval x = .pointer (some ⟨g, 0, none⟩)) {q : Qu} {B : Option Addr} {m d : Nat} (hc : Has w g 53 (quC q B m d))
    (h : wpList Try.prog ops Q rest (p.put op.dst (.agg (quC q B m d))) w) : wpList Try.prog ops Q (op :: rest) p w :=
  wpList_step fun _ hK => by
    rw [if_pos hw]
    exact wp_load_row 53 x ho g hx 53 _ (0, 0) _ hc Try.underlying53 rfl Try.sizeQuery (hK _ _ h)

section
variable (q : Qu) (B : Option Addr) (m d : Nat) (a : Ac) (A : Option Addr) (k c : Nat) (w : World) (hbs : Ints w B m q.bs) (hm : m ≤ maxLen) (ha : Ints w A k a.h) (hk : k ≤ maxLen)
include hbs hm ha hk
set_option maxRecDepth 100000 in
set_option maxHeartbeats 4000000 in
theorem rvalue_bad (hno : (wi q.agg 0 7 && askB q a) = false) :
    Calls Try.prog 35 #[.agg (quC q B m d), .agg (accC a A k c)] w (NoOut w) := by
  have HLB := Lib.hid hbs.1
  have HBS := Lib.hid hbs
  have HAH := Lib.hid ha
  have HM := Lib.hid hm
  have HW : Hid (RankW w (quC q B m d) (accC a A k c) (((w.alloc (.cells (quC q B m d) 53)).alloc (.cells (accC a A k c) 29)).alloc (.cells #[.int .i64 0, .bool false, .slice none 0 0] 56))) := rankW_new _ _ _
  have HMAY : Hid (∀ W, Ints W B m q.bs → Ints W A k a.h → Calls Try.prog 25 #[.agg (accC a A k c), .slice B m d] W fun e w' => e = .returned (.bool (accB a q.bs)) ∧ Below W.heap.size W w') := fun W h1 h2 => raccmay_any a A k c B m d q.bs W h2 h1 hk hm
  have HN := Lib.hid hno; clear hno
  clear hbs ha hm hk
  go_enter Try.func35, Try.ntmps35
  go_upto_region 1 with fail
  generalize ((w.alloc (.cells (quC q B m d) 53)).alloc (.cells (accC a A k c) 29)).alloc (.cells #[.int .i64 0, .bool false, .slice none 0 0] 56) = w1 at HW ⊢
  have cQ : ∀ i, w1.cell? ⟨w.heap.size, i, none⟩ = (quC q B m d)[i]? := fun i => HW.out.hasQ.cell i
  have cA : ∀ i, w1.cell? ⟨w.heap.size + 1, i, none⟩ = (accC a A k c)[i]? := fun i => HW.out.hasA.cell i
  by_cases h1 : q.agg < 0
  · go_upto_region 2 with fail
    go_wp2_with (refine wpList_store_row rfl 56 _ _ rfl (w.heap.size + 1 + 1) (outC 0 false none 0 0) rfl rfl 56 _ HW.out.hasO Try.sizeOut rfl (outC_one _ _ _ _ _) ?_)
    refine bodyPost_ret (ret_row rfl _ _ _ 56 (outC 0 false none 0 0) _ rfl (HW.out.hasO.row _) Try.underlying56 rfl (by exact Try.sizeOut)) rfl ?_
    exact ⟨rfl, below_row HW.out.keep (by omega) _⟩
  · by_cases h2 : 7 < q.agg
    · go_upto_region 2 with fail
      go_wp2_with (refine wpList_store_row rfl 56 _ _ rfl (w.heap.size + 1 + 1) (outC 0 false none 0 0) rfl rfl 56 _ HW.out.hasO Try.sizeOut rfl (outC_one _ _ _ _ _) ?_)
      refine bodyPost_ret (ret_row rfl _ _ _ 56 (outC 0 false none 0 0) _ rfl (HW.out.hasO.row _) Try.underlying56 rfl (by exact Try.sizeOut)) rfl ?_
      exact ⟨rfl, below_row HW.out.keep (by omega) _⟩
    · by_cases h3 : q.rank < 0
      · go_upto_region 2 with fail
        go_wp2_with (refine wpList_store_row rfl 56 _ _ rfl (w.heap.size + 1 + 1) (outC 0 false none 0 0) rfl rfl 56 _ HW.out.hasO Try.sizeOut rfl (outC_one _ _ _ _ _) ?_)
        refine bodyPost_ret (ret_row rfl _ _ _ 56 (outC 0 false none 0 0) _ rfl (HW.out.hasO.row _) Try.underlying56 rfl (by exact Try.sizeOut)) rfl ?_
        exact ⟨rfl, below_row HW.out.keep (by omega) _⟩
      · by_cases h4 : 1000 < q.rank
        · go_upto_region 2 with fail
          go_wp2_with (refine wpList_store_row rfl 56 _ _ rfl (w.heap.size + 1 + 1) (outC 0 false none 0 0) rfl rfl 56 _ HW.out.hasO Try.sizeOut rfl (outC_one _ _ _ _ _) ?_)
          refine bodyPost_ret (ret_row rfl _ _ _ 56 (outC 0 false none 0 0) _ rfl (HW.out.hasO.row _) Try.underlying56 rfl (by exact Try.sizeOut)) rfl ?_
          exact ⟨rfl, below_row HW.out.keep (by omega) _⟩
        · have E1 : Hid (wi q.agg 0 7 = true) := wi_mk (by omega)
          have E2 : Hid (wi q.rank 0 1000 = true) := wi_mk (by omega)
          go_wp2_with (refine load_accG _ rfl rfl _ rfl HW.out.hasA ?_)
          refine (HMAY.out _ (HBS.out.below HW.out.keep) (HAH.out.below HW.out.keep)).mono ?_
          rintro e w2 ⟨rfl, hb⟩
          clear cQ cA
          replace HW := Lib.hid (HW.out.below hb)
          clear hb
          have cQ : ∀ i, w2.cell? ⟨w.heap.size, i, none⟩ = (quC q B m d)[i]? := fun i => HW.out.hasQ.cell i
          have cA : ∀ i, w2.cell? ⟨w.heap.size + 1, i, none⟩ = (accC a A k c)[i]? := fun i => HW.out.hasA.cell i
          cases h5 : accB a q.bs
          · go_upto_region 2 with fail
            go_wp2_with (refine wpList_store_row rfl 56 _ _ rfl (w.heap.size + 1 + 1) (outC 0 false none 0 0) rfl rfl 56 _ HW.out.hasO Try.sizeOut rfl (outC_one _ _ _ _ _) ?_)
            refine bodyPost_ret (ret_row rfl _ _ _ 56 (outC 0 false none 0 0) _ rfl (HW.out.hasO.row _) Try.underlying56 rfl (by exact Try.sizeOut)) rfl ?_
            exact ⟨rfl, below_row HW.out.keep (by omega) _⟩
          · have h6 : 0 ≤ a.n := by
              have := h5
              simp only [accB, Bool.and_eq_true] at this
              exact (fit_of (m := q.bs.length + 1) this.2).n0
            have E3 := Lib.hid h5; clear h5
            by_cases h7 : a.n = 0
            · have h7' : (a.n == 0) = true := by simp [h7]
              clear h7
              go_upto_region 2 with fail
              go_wp2_with (refine wpList_store_row rfl 56 _ _ rfl (w.heap.size + 1 + 1) (outC 0 false none 0 0) rfl rfl 56 _ HW.out.hasO Try.sizeOut rfl (outC_one _ _ _ _ _) ?_)
              refine bodyPost_ret (ret_row rfl _ _ _ 56 (outC 0 false none 0 0) _ rfl (HW.out.hasO.row _) Try.underlying56 rfl (by exact Try.sizeOut)) rfl ?_
              exact ⟨rfl, below_row HW.out.keep (by omega) _⟩
            · have h7' : (a.n == 0) = false := by simp [h7]
              have E4 : Hid (decide (0 < a.n) = true) := decide_eq_true (by omega)
              clear h7
              by_cases h8 : q.agg = 7
              · by_cases h9 : m = 0
                · have h9' : ((m : Int) == 0) = true := by simp [h9]
                  have h8' : (q.agg == 7) = true := by simp [h8]
                  clear h9 h8
                  go_upto_region 2 with fail
                  go_wp2_with (refine wpList_store_row rfl 56 _ _ rfl (w.heap.size + 1 + 1) (outC 0 false none 0 0) rfl rfl 56 _ HW.out.hasO Try.sizeOut rfl (outC_one _ _ _ _ _) ?_)
                  refine bodyPost_ret (ret_row rfl _ _ _ 56 (outC 0 false none 0 0) _ rfl (HW.out.hasO.row _) Try.underlying56 rfl (by exact Try.sizeOut)) rfl ?_
                  exact ⟨rfl, below_row HW.out.keep (by omega) _⟩
                · exfalso
                  have := HN.out
                  have hl : 0 < q.bs.length := by rw [HLB.out]; omega
                  simp [askB, E1.out, E2.out, E3.out, E4.out, hl] at this
              · exfalso
                have := HN.out
                simp [askB, E1.out, E2.out, E3.out, E4.out, h8] at this
end

end Go.Proofs.Ytinaddcmaaegeaa

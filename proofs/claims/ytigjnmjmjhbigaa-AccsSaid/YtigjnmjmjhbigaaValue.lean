/-
  Walk: low.Value.
-/
import Derived.Test.YtigjnmjmjhbigaaTable
namespace Go.Proofs.Ytigjnmjmjhbigaa
open Go.RowKit

/-- What is told is refused. -/
def NoOut (w : World) (e : Ending) (w' : World) : Prop := e = .returned (.tuple #[.agg (outC 0 false none 0 0), .int .i64 200]) ∧ Below w.heap.size w w'
/-- What is told. -/
def OkOut (v : Int) (o : Bool) (hs : List Int) (w : World) (e : Ending) (w' : World) : Prop :=
  ∃ A n c, e = .returned (.tuple #[.agg (outC v o A n c), .int .i64 0]) ∧ Ints w' A n hs ∧ n ≤ c ∧ c ≤ maxLen ∧ OwnI w' w.heap.size (.slice A n c) hs ∧ Below w.heap.size w w'

theorem RankW.below {w : World} {qc ac : Array Value} {wr wy : World} (h : RankW w qc ac wr) (hb : Below wr.heap.size wr wy) : RankW w qc ac wy :=
  ⟨has_below h.hasQ hb, has_below h.hasA hb, has_below h.hasO hb, h.keep.trans (hb.mono h.keep.size)⟩

set_option maxRecDepth 100000 in
set_option maxHeartbeats 2000000 in
theorem value_bad (q : Qu) (B : Option Addr) (m d : Nat) (a : Ac) (A : Option Addr) (k c : Nat) (w : World) (hbs : Ints w B m q.bs) (hm : m ≤ maxLen) (ha : Ints w A k a.h) (hk : k ≤ maxLen) (hno : (wi q.agg 0 7 && askB q a) = false) :
    Calls Try.prog 29 #[.agg #[.int .i64 q.kind, .int .i64 q.agg, .int .i64 q.size, .int .i64 q.slide, .slice B m d, .int .i64 q.rank], .agg #[.int .i64 a.n, .int .i64 a.s, .int .i64 a.mn, .int .i64 a.mx, .int .i64 a.f.s, .int .i64 a.f.t, .int .i64 a.f.q, .int .i64 a.f.v, .int .i64 a.l.s, .int .i64 a.l.t, .int .i64 a.l.q, .int .i64 a.l.v, .slice A k c]] w (NoOut w) := by
  have HN := Lib.hid hno; clear hno
  have HW0 := Lib.hid (rankW_new w (quC q B m d) (accC a A k c))
  go_enter Try.func29, Try.ntmps29
  go_wp2_with fail
  refine (table_any _).mono ?_
  rintro e w1 ⟨g, rfl, hT, hb1⟩
  have HW1 := Lib.hid (HW0.out.below hb1)
  clear HW0 hb1
  have cQ : ∀ i, w1.cell? ⟨w.heap.size, i, none⟩ = #[Value.int .i64 q.kind, .int .i64 q.agg, .int .i64 q.size, .int .i64 q.slide, .slice B m d, .int .i64 q.rank][i]? := fun i => HW1.out.hasQ.cell i
  cases h1 : wi q.agg 0 7
  · go_wp2_with (first | (go_at_call 59; refine (within_any _ _ _ _).mono ?_; rintro e w' ⟨rfl, rfl⟩) | (refine wpList_store_row rfl 49 _ _ rfl (w.heap.size + 1 + 1) (outC 0 false none 0 0) rfl rfl 49 _ HW1.out.hasO Try.sizeOut rfl (outC_one _ _ _ _ _) ?_))
    refine bodyPost_ret (ret_row rfl _ _ _ 49 (outC 0 false none 0 0) _ rfl (HW1.out.hasO.row _) Try.underlying49 rfl (by exact Try.sizeOut)) rfl ?_
    exact ⟨rfl, below_row HW1.out.keep (by omega) _⟩
  · have h2 : askB q a = false := by have := HN.out; rw [h1] at this; simpa using this
    go_wp2_with fail
    refine (within_any _ _ _ _).mono ?_
    rintro e w2 ⟨rfl, rfl⟩
    go_wp2_with (refine load_hasG rfl _ rfl _ rfl HW1.out.hasA ?_)
    refine (ask_any q B m d a A k c _ (hbs.below HW1.out.keep) hm (ha.below HW1.out.keep) hk).mono ?_
    rintro e w2 ⟨rfl, hb2⟩
    rw [h2]
    have HW2 := Lib.hid (HW1.out.below hb2)
    clear HW1 hb2 cQ
    go_wp2_with (refine wpList_store_row rfl 49 _ _ rfl (w.heap.size + 1 + 1) (outC 0 false none 0 0) rfl rfl 49 _ HW2.out.hasO Try.sizeOut rfl (outC_one _ _ _ _ _) ?_)
    refine bodyPost_ret (ret_row rfl _ _ _ 49 (outC 0 false none 0 0) _ rfl (HW2.out.hasO.row _) Try.underlying49 rfl (by exact Try.sizeOut)) rfl ?_
    exact ⟨rfl, below_row HW2.out.keep (by omega) _⟩

set_option maxRecDepth 100000 in
set_option maxHeartbeats 4000000 in
theorem value_tell (q : Qu) (B : Option Addr) (m d : Nat) (a : Ac) (A : Option Addr) (k c : Nat) (w : World) (hbs : Ints w B m q.bs) (hm : m ≤ maxLen) (ha : Ints w A k a.h) (hk : k ≤ maxLen) (hok : askB q a = true)
    (kk f : Nat) (fn : Func) (v : Int) (ov : Bool) (hs : List Int) (agg : q.agg = kk) (lt : kk < 8) (tf : tab[kk]? = some (.func (.func f) #[] #[])) (hf : Try.prog.funcs[f]? = some fn) (hname : (fn.name == "runtime.NumGoroutine") = false) (hb : fn.body.isSome = true)
    (call : ∀ W, Below w.heap.size w W → Calls Try.prog f #[.agg (quC q B m d), .agg (accC a A k c)] W (TellOut v ov hs W)) :
    Calls Try.prog 29 #[.agg #[.int .i64 q.kind, .int .i64 q.agg, .int .i64 q.size, .int .i64 q.slide, .slice B m d, .int .i64 q.rank], .agg #[.int .i64 a.n, .int .i64 a.s, .int .i64 a.mn, .int .i64 a.mx, .int .i64 a.f.s, .int .i64 a.f.t, .int .i64 a.f.q, .int .i64 a.f.v, .int .i64 a.l.s, .int .i64 a.l.t, .int .i64 a.l.q, .int .i64 a.l.v, .slice A k c]] w (OkOut v ov hs w) := by
  have h1 : wi q.agg 0 7 = true := wi_mk (by omega)
  have HAGG := Lib.hid agg; clear agg
  have HW0 := Lib.hid (rankW_new w (quC q B m d) (accC a A k c))
  go_enter Try.func29, Try.ntmps29
  go_wp2_with fail
  refine (table_any _).mono ?_
  rintro e w1 ⟨g, rfl, hT, hb1⟩
  have HW1 := Lib.hid (HW0.out.below hb1)
  clear HW0 hb1
  have cQ : ∀ i, w1.cell? ⟨w.heap.size, i, none⟩ = #[Value.int .i64 q.kind, .int .i64 q.agg, .int .i64 q.size, .int .i64 q.slide, .slice B m d, .int .i64 q.rank][i]? := fun i => HW1.out.hasQ.cell i
  go_wp2_with fail
  refine (within_any _ _ _ _).mono ?_
  rintro e w2 ⟨rfl, rfl⟩
  go_wp2_with (refine load_hasG rfl _ rfl _ rfl HW1.out.hasA ?_)
  refine (ask_any q B m d a A k c _ (hbs.below HW1.out.keep) hm (ha.below HW1.out.keep) hk).mono ?_
  rintro e w2 ⟨rfl, hb2⟩
  rw [hok]
  have HW2 := Lib.hid (HW1.out.below hb2)
  have HT2 := has_below hT hb2
  clear HW1 hb2 cQ hT
  go_upto_region 4 with fail
  refine val4_any (N := w.heap.size) (g := g) (kk := kk) (f := f) (q := q) (B := B) (m := m) (d := d) (a := a) (A := A) (k := k) (c := c) (v := v) (ov := ov) (hs := hs) (fn := fn) ⟨rfl, rfl, rfl, rfl, HW2.out.hasQ, HW2.out.hasA, HT2, HAGG.out, lt, tf, hf, hname, hb, fun W hW => call W (HW2.out.keep.trans (hW.mono HW2.out.keep.size))⟩ (by kernel_rfl) ?_
  intro A1 n1 c1 w3 hB3 g1 g2 g3 g4
  have HW3 := Lib.hid (HW2.out.below hB3)
  have hsz := HW2.out.hasO.lt
  clear hB3 HW2 HT2
  simp only [putAll, Act.put, List.setIfInBounds_toArray, List.set_cons_succ, List.set_cons_zero, List.drop_succ_cons, List.drop_zero]
  go_wp2_with (refine wpList_store_row rfl 49 _ _ rfl (w.heap.size + 1 + 1) (outC v ov A1 n1 c1) rfl rfl 49 _ HW3.out.hasO Try.sizeOut rfl (outC_one _ _ _ _ _) ?_)
  refine bodyPost_ret (ret_row rfl _ _ _ 49 (outC v ov A1 n1 c1) _ rfl (HW3.out.hasO.row _) Try.underlying49 rfl (by exact Try.sizeOut)) rfl ?_
  exact ⟨A1, n1, c1, rfl, g1.row (fun ad e => by have := g4.new ad e; omega) _, g2, g3, (g4.row (by omega) _).mono (by omega), below_row HW3.out.keep (by omega) _⟩

end Go.Proofs.Ytigjnmjmjhbigaa

import Derived.Test.YtbpaepkcchpmbaaGreatG19
import Derived.Deep.CutRange
import Derived.Test.YtbpaepkcchpmbaaGreatG7
namespace Go.Proofs.YtbpaepkcchpmbaaGreat
open Go.RowKit
def NoOut (w : World) (e : Ending) (w' : World) : Prop := e = .returned (.tuple #[.agg (outC 0 false none 0 0), .int .i64 200]) ∧ Below w.heap.size w w'
def OkOut (v : Int) (o : Bool) (hs : List Int) (w : World) (e : Ending) (w' : World) : Prop :=
  ∃ A n c, e = .returned (.tuple #[.agg (outC v o A n c), .int .i64 0]) ∧ Ints w' A n hs ∧ n ≤ c ∧ c ≤ maxLen ∧ OwnI w' w.heap.size (.slice A n c) hs ∧ Below w.heap.size w w'
theorem RankW.below {w : World} {qc ac : Array Value} {wr wy : World} (h : RankW w qc ac wr) (hb : Below wr.heap.size wr wy) : RankW w qc ac wy :=
  ⟨has_below h.hasQ hb, has_below h.hasA hb, has_below h.hasO hb, h.keep.trans (hb.mono h.keep.size)⟩
set_option maxRecDepth 100000 in
set_option maxHeartbeats 4000000 in
theorem value_tell (q : Qu) (B : Option Addr) (m d : Nat) (a : Ac) (A : Option Addr) (k c : Nat) (w : World) (hbs : Ints w B m q.bs) (hm : m ≤ maxLen) (ha : Ints w A k a.h) (hk : k ≤ maxLen) (hok : askB q a = true)
    (kk f : Nat) (fn : Func) (v : Int) (ov : Bool) (hs : List Int) (agg : q.agg = kk) (lt : kk < 8) (tf : tab[kk]? = some (.func (.func f) #[] #[])) (hf : Tryz.prog.funcs[f]? = some fn) (hname : (fn.name == "runtime.NumGoroutine") = false) (hb : fn.body.isSome = true)
    (call : ∀ W, Below w.heap.size w W → Calls Tryz.prog f #[.agg (quC q B m d), .agg (accC a A k c)] W (TellOut v ov hs W)) :
    Calls Tryz.prog 191 #[.agg #[.int .i64 q.kind, .int .i64 q.agg, .int .i64 q.size, .int .i64 q.slide, .slice B m d, .int .i64 q.rank], .agg #[.int .i64 a.n, .int .i64 a.s, .int .i64 a.mn, .int .i64 a.mx, .int .i64 a.f.s, .int .i64 a.f.t, .int .i64 a.f.q, .int .i64 a.f.v, .int .i64 a.l.s, .int .i64 a.l.t, .int .i64 a.l.q, .int .i64 a.l.v, .slice A k c]] w (OkOut v ov hs w) := by
  have h1 : wi q.agg 0 7 = true := wi_mk (by omega)
  have HAGG := Lib.hid agg; clear agg
  have HW0 := Lib.hid (rankW_new w (quC q B m d) (accC a A k c))
  go_enter Tryz.func191, Tryz.ntmps191
  go_wp2_with fail
  refine (table_any _).mono ?_
  rintro e w1 ⟨g, rfl, hT, hb1⟩
  have HW1 := Lib.hid (HW0.out.below hb1)
  clear HW0 hb1
  have cQ : ∀ i, w1.cell? ⟨w.heap.size, i, none⟩ = #[Value.int .i64 q.kind, .int .i64 q.agg, .int .i64 q.size, .int .i64 q.slide, .slice B m d, .int .i64 q.rank][i]? := fun i => HW1.out.hasQ.cell i
  go_wp2_with fail
  refine (within_any _ _ _ _).mono ?_
  rintro e w2 ⟨rfl, rfl⟩
  go_wp2_with (refine load_hasG rfl _ rfl _ rfl HW1.out.hasA ?_)
  refine (ask_any q B m d a A k c _ (hbs.below HW1.out.keep) hm (ha.below HW1.out.keep) hk).mono ?_
  rintro e w2 ⟨rfl, hb2⟩
  rw [hok]
  have HW2 := Lib.hid (HW1.out.below hb2)
  have HT2 := has_below hT hb2
  clear HW1 hb2 cQ hT
  go_upto_region 4 with fail
  refine val4_any (N := w.heap.size) (g := g) (kk := kk) (f := f) (q := q) (B := B) (m := m) (d := d) (a := a) (A := A) (k := k) (c := c) (v := v) (ov := ov) (hs := hs) (fn := fn) ⟨rfl, rfl, rfl, rfl, HW2.out.hasQ, HW2.out.hasA, HT2, HAGG.out, lt, tf, hf, hname, hb, fun W hW => call W (HW2.out.keep.trans (hW.mono HW2.out.keep.size))⟩ (by kernel_rfl) ?_
  intro A1 n1 c1 w3 hB3 g1 g2 g3 g4
  have HW3 := Lib.hid (HW2.out.below hB3)
  have hsz := HW2.out.hasO.lt
  clear hB3 HW2 HT2
  simp only [putAll, Act.put, List.setIfInBounds_toArray, List.set_cons_succ, List.set_cons_zero, List.drop_succ_cons, List.drop_zero]
  go_wp2_with (refine wpList_store_row rfl 69 _ _ rfl (w.heap.size + 1 + 1) (outC v ov A1 n1 c1) rfl rfl 69 _ HW3.out.hasO Tryz.sizeOut rfl (outC_one _ _ _ _ _) ?_)
  refine bodyPost_ret (ret_row rfl _ _ _ 69 (outC v ov A1 n1 c1) _ rfl (HW3.out.hasO.row _) Tryz.underlying69 rfl (by exact Tryz.sizeOut)) rfl ?_
  exact ⟨A1, n1, c1, rfl, g1.row (fun ad e => by have := g4.new ad e; omega) _, g2, g3, (g4.rowL (by omega) _).mono (by omega), below_row HW3.out.keep (by omega) _⟩
end Go.Proofs.YtbpaepkcchpmbaaGreat
namespace Go.Proofs.YtbpaepkcchpmbaaGreat
open Go.RowKit
theorem ask_len {q : Qu} {B : Option Addr} {m : Nat} {a : Ac} {A : Option Addr} {k : Nat} {w : World} (hbs : Ints w B m q.bs) (ha : Ints w A k a.h) (hok : askB q a = true) : 0 < k ∧ k ≤ 9 ∧ k = m + 1 ∧ m ≤ 8 ∧ (0 ≤ q.rank ∧ q.rank ≤ 1000) ∧ (0 ≤ a.n ∧ a.n ≤ 8192) ∧ ∀ i, i < k → 0 ≤ nth a.h i ∧ nth a.h i ≤ 8192 := by
  simp only [askB, accB, Bool.and_eq_true] at hok
  obtain ⟨h1, ⟨h2, h3⟩, _⟩ := hok
  have h4 := wi_true h1
  have h5 := (boundsB_true h2).1
  have hl := hbs.1
  have hf := fit_of (m := q.bs.length + 1) h3
  have hla := ha.1
  have := hf.len
  exact ⟨by omega, by omega, by omega, by omega, h4, ⟨hf.n0, hf.n1⟩, fun i hi => ⟨hf.low i (by omega), by have := hf.top i (by omega); have := hf.n1; omega⟩⟩
section
variable (q : Qu) (B : Option Addr) (m d : Nat) (a : Ac) (A : Option Addr) (k c : Nat) (w : World) (hbs : Ints w B m q.bs) (hm : m ≤ maxLen) (ha : Ints w A k a.h) (hk : k ≤ maxLen) (hok : askB q a = true)
include hbs hm ha hk hok
theorem value_count (h : q.agg = 0) : Calls Tryz.prog 191 #[.agg (quC q B m d), .agg (accC a A k c)] w (OkOut a.n false [] w) :=
  value_tell q B m d a A k c w hbs hm ha hk hok 0 237 _ a.n false [] h (by omega) rfl Tryz.func237 (by kernel_rfl) (by kernel_rfl) fun W _ => tell_count q B m d a A k c W
theorem value_sum (h : q.agg = 1) : Calls Tryz.prog 191 #[.agg (quC q B m d), .agg (accC a A k c)] w (OkOut (if wi a.s (-1125899906842624) 1125899906842624 then a.s else 0) (!wi a.s (-1125899906842624) 1125899906842624) [] w) :=
  value_tell q B m d a A k c w hbs hm ha hk hok 1 238 _ _ _ [] h (by omega) rfl Tryz.func238 (by kernel_rfl) (by kernel_rfl) fun W _ => tell_sum q B m d a A k c W
theorem value_min (h : q.agg = 2) : Calls Tryz.prog 191 #[.agg (quC q B m d), .agg (accC a A k c)] w (OkOut a.mn false [] w) :=
  value_tell q B m d a A k c w hbs hm ha hk hok 2 239 _ _ _ [] h (by omega) rfl Tryz.func239 (by kernel_rfl) (by kernel_rfl) fun W _ => tell_min q B m d a A k c W
theorem value_max (h : q.agg = 3) : Calls Tryz.prog 191 #[.agg (quC q B m d), .agg (accC a A k c)] w (OkOut a.mx false [] w) :=
  value_tell q B m d a A k c w hbs hm ha hk hok 3 240 _ _ _ [] h (by omega) rfl Tryz.func240 (by kernel_rfl) (by kernel_rfl) fun W _ => tell_max q B m d a A k c W
theorem value_first (h : q.agg = 4) : Calls Tryz.prog 191 #[.agg (quC q B m d), .agg (accC a A k c)] w (OkOut a.f.v false [] w) :=
  value_tell q B m d a A k c w hbs hm ha hk hok 4 241 _ _ _ [] h (by omega) rfl Tryz.func241 (by kernel_rfl) (by kernel_rfl) fun W _ => tell_first q B m d a A k c W
theorem value_last (h : q.agg = 5) : Calls Tryz.prog 191 #[.agg (quC q B m d), .agg (accC a A k c)] w (OkOut a.l.v false [] w) :=
  value_tell q B m d a A k c w hbs hm ha hk hok 5 242 _ _ _ [] h (by omega) rfl Tryz.func242 (by kernel_rfl) (by kernel_rfl) fun W _ => tell_last q B m d a A k c W
theorem value_hist (h : q.agg = 6) : Calls Tryz.prog 191 #[.agg (quC q B m d), .agg (accC a A k c)] w (OkOut 0 false a.h w) := by
  obtain ⟨k0, k9, _, _, _, _, _⟩ := ask_len hbs ha hok
  exact value_tell q B m d a A k c w hbs hm ha hk hok 6 243 _ _ _ a.h h (by omega) rfl Tryz.func243 (by kernel_rfl) (by kernel_rfl) fun W hW => tell_hist q B m d a A k c W (ha.below hW) k0 (by omega)
theorem value_rank (h : q.agg = 7) : Calls Tryz.prog 191 #[.agg (quC q B m d), .agg (accC a A k c)] w (OkOut (rankV q.bs a.h (place q.rank a.n) a.mx) false [] w) := by
  obtain ⟨k0, k9, km, m8, hr, hn, hh⟩ := ask_len hbs ha hok
  exact value_tell q B m d a A k c w hbs hm ha hk hok 7 244 _ _ _ [] h (by omega) rfl Tryz.func244 (by kernel_rfl) (by kernel_rfl) fun W hW => tell_rank q B m d a A k c W (hbs.below hW) (ha.below hW) m8 km hr hn hh
end
end Go.Proofs.YtbpaepkcchpmbaaGreat
namespace Go.Proofs.YtbpaepkcchpmbaaGreat
open Go.RowKit
def tolV (q : Qu) (a : Ac) : Int :=
  if q.agg = 0 then a.n else if q.agg = 1 then (if wi a.s (-1125899906842624) 1125899906842624 then a.s else 0) else if q.agg = 2 then a.mn else if q.agg = 3 then a.mx
  else if q.agg = 4 then a.f.v else if q.agg = 5 then a.l.v else if q.agg = 6 then 0 else rankV q.bs a.h (place q.rank a.n) a.mx
def tolO (q : Qu) (a : Ac) : Bool := if q.agg = 1 then !wi a.s (-1125899906842624) 1125899906842624 else false
def tolH (q : Qu) (a : Ac) : List Int := if q.agg = 6 then a.h else []
theorem val_any (q : Qu) (B : Option Addr) (m d : Nat) (a : Ac) (A : Option Addr) (k c : Nat) (w : World) (hbs : Ints w B m q.bs) (hm : m ≤ maxLen) (ha : Ints w A k a.h) (hk : k ≤ maxLen) (hok : askB q a = true) (hg : wi q.agg 0 7 = true) :
    Calls Tryz.prog 191 #[.agg (quC q B m d), .agg (accC a A k c)] w (OkOut (tolV q a) (tolO q a) (tolH q a) w) := by
  have h := wi_true hg
  have e : q.agg = 0 ∨ q.agg = 1 ∨ q.agg = 2 ∨ q.agg = 3 ∨ q.agg = 4 ∨ q.agg = 5 ∨ q.agg = 6 ∨ q.agg = 7 := by omega
  rcases e with e | e | e | e | e | e | e | e
  · have := value_count q B m d a A k c w hbs hm ha hk hok e
    simp only [tolV, tolO, tolH, e]; exact this
  · have := value_sum q B m d a A k c w hbs hm ha hk hok e
    simp only [tolV, tolO, tolH, e]; exact this
  · have := value_min q B m d a A k c w hbs hm ha hk hok e
    simp only [tolV, tolO, tolH, e]; exact this
  · have := value_max q B m d a A k c w hbs hm ha hk hok e
    simp only [tolV, tolO, tolH, e]; exact this
  · have := value_first q B m d a A k c w hbs hm ha hk hok e
    simp only [tolV, tolO, tolH, e]; exact this
  · have := value_last q B m d a A k c w hbs hm ha hk hok e
    simp only [tolV, tolO, tolH, e]; exact this
  · have := value_hist q B m d a A k c w hbs hm ha hk hok e
    simp only [tolV, tolO, tolH, e]; exact this
  · have := value_rank q B m d a A k c w hbs hm ha hk hok e
    simp only [tolV, tolO, tolH, e]; exact this
def rslC (k s a b v : Int) (o : Bool) (A : Option Addr) (n c : Nat) : Array Value := #[.int .i64 k, .int .i64 s, .int .i64 a, .int .i64 b, .int .i64 v, .bool o, .slice A n c]
end Go.Proofs.YtbpaepkcchpmbaaGreat
namespace Go.Proofs.YtbpaepkcchpmbaaGreat
open Go.RowKit
theorem before_iff {x y : It} : beforeB x y = true ↔ (x.t < y.t ∨ (x.t = y.t ∧ x.q < y.q)) := by simp [beforeB]
theorem before_not {x y : It} : beforeB x y = false ↔ ¬ (x.t < y.t ∨ (x.t = y.t ∧ x.q < y.q)) := by simp [beforeB]
theorem pickF_assoc (x y z : It) : pick (beforeB z (pick (beforeB y x) y x)) z (pick (beforeB y x) y x) = pick (beforeB (pick (beforeB z y) z y) x) (pick (beforeB z y) z y) x := by
  cases h1 : beforeB y x <;> cases h2 : beforeB z y <;> cases h3 : beforeB z x <;> simp only [pick, h1, h2, h3, if_true, if_false, Bool.false_eq_true] <;>
    (simp only [before_iff, before_not] at h1 h2 h3; omega)
theorem pickL_assoc (x y z : It) : pick (beforeB z (pick (beforeB y x) x y)) (pick (beforeB y x) x y) z = pick (beforeB (pick (beforeB z y) y z) x) x (pick (beforeB z y) y z) := by
  cases h1 : beforeB y x <;> cases h2 : beforeB z y <;> cases h3 : beforeB z x <;> simp only [pick, h1, h2, h3, if_true, if_false, Bool.false_eq_true] <;>
    (simp only [before_iff, before_not] at h1 h2 h3; omega)
def Apart (x y : It) : Prop := x.t ≠ y.t ∨ x.q ≠ y.q
theorem add_assoc (z a b : Ac) (hz : 0 ≤ z.n) (ha : 0 < a.n) (hl : z.h.length ≤ a.h.length) : addAc (addAc z a) b = addAc z (addAc a b) := by
  have h1 : ¬ a.n = 0 := by omega
  have h2 : ¬ z.n + a.n = 0 := by omega
  by_cases h0 : z.n = 0
  · simp only [addAc, h0, h1, Int.zero_add, if_true, if_false, Ac.mk.injEq, true_and]
    refine ⟨by omega, ?_⟩
    refine nth_ext (by simp) fun i hi => ?_
    have hi' : i < z.h.length := by simpa using hi
    rw [nth_range_map _ _ (by simpa using hi'), nth_range_map _ _ hi', nth_range_map _ _ hi', nth_range_map _ _ (by omega)]
    omega
  · simp only [addAc, h0, h1, h2, if_false, Ac.mk.injEq]
    refine ⟨by omega, by omega, by omega, by omega, pickF_assoc _ _ _, pickL_assoc _ _ _, ?_⟩
    refine nth_ext (by simp) fun i hi => ?_
    have hi' : i < z.h.length := by simpa using hi
    rw [nth_range_map _ _ (by simpa using hi'), nth_range_map _ _ hi', nth_range_map _ _ hi', nth_range_map _ _ (by omega)]
    omega
theorem step_one (z : Ac) (x : It) (bs : List Int) : joinStep z (oneAc x bs) = addAc z (oneAc x bs) := by
  unfold joinStep; rw [if_neg (by simp only [oneAc]; decide)]
end Go.Proofs.YtbpaepkcchpmbaaGreat
namespace Go.Proofs.YtbpaepkcchpmbaaGreat
open Go.RowKit
theorem isum_range_add : ∀ a b : List Int, a.length = b.length → isum ((List.range a.length).map fun i => nth a i + nth b i) = isum a + isum b
  | [], [], _ => rfl
  | x :: a, y :: b, h => by
    have ih := isum_range_add a b (by simpa using h)
    simp only [List.length_cons, List.range_succ_eq_map, List.map_cons, List.map_map, isum, nth_cons_zero]
    have e : ((fun i => nth (x :: a) i + nth (y :: b) i) ∘ Nat.succ) = fun i => nth a i + nth b i := funext fun i => by simp only [Function.comp, Nat.succ_eq_add_one, nth_cons_succ]
    rw [e, ih]; omega
theorem before_no {x y : It} (h : beforeB x y = false) : ¬ (x.t < y.t ∨ (x.t = y.t ∧ x.q < y.q)) := of_decide_eq_false h
theorem before_yes {x y : It} (h : beforeB x y = true) : x.t < y.t ∨ (x.t = y.t ∧ x.q < y.q) := of_decide_eq_true h
theorem add_one_fit {bs : List Int} {o : Ac} {x : It} (ho : fitB o (bs.length + 1) = true) (hx : itemB x = true) (hs : ¬ o.n = 0 → o.f.s = x.s) (hn : o.n < 8192) :
    fitB (addAc o (oneAc x bs)) (bs.length + 1) = true ∧ (addAc o (oneAc x bs)).f.s = x.s := by
  have h1 := one_fit (bs := bs) hx
  simp only [fitB, Bool.and_eq_true] at ho h1
  obtain ⟨n1, g1, r1⟩ := ho
  obtain ⟨_, g2, _⟩ := h1
  have hg := of_decide_eq_true g1
  have hg2 := of_decide_eq_true g2
  have hw := wi_true n1
  have hv := itemB_iff.1 hx
  have hl : o.h.length = (oneAc x bs).h.length := by have := hg.1; have := hg2.1; omega
  have e2 : histB (addAc o (oneAc x bs)) (bs.length + 1) = true := by
    refine decide_eq_true ⟨by simpa [addAc] using hg.1, fun i hi => ?_, ?_⟩
    · have hi' : i < o.h.length := by simpa [addAc] using hi
      have e : nth (addAc o (oneAc x bs)).h i = nth o.h i + nth (oneAc x bs).h i := nth_range_map _ _ hi'
      have t1 := nth_le_isum (h := o.h) (fun i hi => (hg.2.1 i hi).1) hi'
      have t2 := nth_le_isum (h := (oneAc x bs).h) (fun i hi => (hg2.2.1 i hi).1) (i := i) (by omega)
      have a1 := (hg.2.1 i hi').1
      have a2 := (hg2.2.1 i (by omega)).1
      have a3 : (oneAc x bs).n = 1 := rfl
      rw [e]
      have := hg.2.2; have := hg2.2.2; omega
    · have := isum_range_add o.h (oneAc x bs).h hl
      show isum ((List.range o.h.length).map fun i => nth o.h i + nth (oneAc x bs).h i) = o.n + (oneAc x bs).n
      rw [this, hg.2.2, hg2.2.2]
  have e1 : wi (addAc o (oneAc x bs)).n 0 8192 = true := wi_mk (by simp only [addAc, oneAc]; omega)
  have en : ¬ (addAc o (oneAc x bs)).n = 0 := by simp only [addAc, oneAc]; omega
  by_cases h0 : o.n = 0
  · rw [if_pos h0] at r1
    have hz := of_decide_eq_true r1
    have ef : (addAc o (oneAc x bs)).f = x := by simp only [addAc, oneAc, h0, if_true]
    have el : (addAc o (oneAc x bs)).l = x := by simp only [addAc, oneAc, h0, if_true]
    have e3 : endsB (addAc o (oneAc x bs)) = true := decide_eq_true (by rw [ef, el]; exact ⟨hx, hx, rfl, by simp [beforeB]⟩)
    have e4 : valsB (addAc o (oneAc x bs)) = true := decide_eq_true (by rw [ef, el]; simp only [addAc, oneAc, h0, if_true]; omega)
    exact ⟨by unfold fitB; rw [e1, e2, e3, e4, if_neg en]; rfl, by rw [ef]⟩
  · rw [if_neg h0] at r1
    simp only [Bool.and_eq_true] at r1
    have hE := of_decide_eq_true r1.1
    have hV := of_decide_eq_true r1.2
    have hs' := hs h0
    have ef : (addAc o (oneAc x bs)).f = pick (beforeB x o.f) x o.f := by simp only [addAc, oneAc, h0, if_false]
    have el : (addAc o (oneAc x bs)).l = pick (beforeB x o.l) o.l x := by simp only [addAc, oneAc, h0, if_false]
    have emn : (addAc o (oneAc x bs)).mn = min o.mn x.v := by simp only [addAc, oneAc, h0, if_false]
    have emx : (addAc o (oneAc x bs)).mx = max o.mx x.v := by simp only [addAc, oneAc, h0, if_false]
    have es : (addAc o (oneAc x bs)).s = o.s + x.v := rfl
    have enn : (addAc o (oneAc x bs)).n = o.n + 1 := rfl
    have e3 : endsB (addAc o (oneAc x bs)) = true := decide_eq_true (by
      rw [ef, el]
      have hb := before_no hE.2.2.2
      cases h6 : beforeB x o.f <;> cases h7 : beforeB x o.l <;> simp only [pick, if_true, if_false, Bool.false_eq_true]
      · exact ⟨hE.1, hx, hs', h6⟩
      · exact hE
      · exact ⟨hx, hx, trivial, by simp [beforeB]⟩
      · refine ⟨hx, hE.2.1, by have := hE.2.2.1; omega, ?_⟩
        have h8 := before_yes h7
        exact decide_eq_false (by omega))
    have e4 : valsB (addAc o (oneAc x bs)) = true := decide_eq_true (by
      rw [ef, el, emn, emx, es, enn]
      have m1 : o.n * min o.mn x.v ≤ o.n * o.mn := Int.mul_le_mul_of_nonneg_left (by omega) hw.1
      have m2 : o.n * o.mx ≤ o.n * max o.mx x.v := Int.mul_le_mul_of_nonneg_left (by omega) hw.1
      rw [Int.add_mul, Int.add_mul]
      cases h6 : beforeB x o.f <;> cases h7 : beforeB x o.l <;> simp only [pick, if_true, if_false, Bool.false_eq_true] <;> omega)
    exact ⟨by unfold fitB; rw [e1, e2, e3, e4, if_neg en]; rfl, by rw [ef]; cases beforeB x o.f <;> simp [pick, hs']⟩
theorem fold_fit {bs : List Int} {σ : Int} : ∀ (xs : List It) (z : Ac), (∀ x, x ∈ xs → itemB x = true ∧ x.s = σ) → fitB z (bs.length + 1) = true → (¬ z.n = 0 → z.f.s = σ) → z.n + xs.length ≤ 8192 →
    fitB ((ones bs xs).foldl joinStep z) (bs.length + 1) = true ∧ (¬ ((ones bs xs).foldl joinStep z).n = 0 → ((ones bs xs).foldl joinStep z).f.s = σ)
  | [], z, _, hf, hs, _ => ⟨hf, hs⟩
  | x :: r, z, hx, hf, hs, hn => by
    have h0 := hx x (by simp)
    have e : joinStep z (oneAc x bs) = addAc z (oneAc x bs) := by unfold joinStep; rw [if_neg (by simp only [oneAc]; decide)]
    have hlen : ((x :: r).length : Int) = (r.length : Int) + 1 := by simp
    obtain ⟨f1, f2⟩ := add_one_fit (bs := bs) hf h0.1 (fun h => (hs h).trans h0.2.symm) (by omega)
    simp only [ones, List.map_cons, List.foldl_cons, e]
    exact fold_fit r _ (fun y hy => hx y (List.mem_cons_of_mem _ hy)) f1 (fun _ => f2.trans h0.2) (by show z.n + 1 + _ ≤ _; omega)
theorem join_fit {bs : List Int} {σ : Int} (xs : List It) (hx : ∀ x, x ∈ xs → itemB x = true ∧ x.s = σ) (hn : xs.length ≤ 8192) :
    fitB (joinAc bs (ones bs xs)) (bs.length + 1) = true ∧ (¬ (joinAc bs (ones bs xs)).n = 0 → (joinAc bs (ones bs xs)).f.s = σ) :=
  fold_fit xs (startJ bs) hx (start_fit bs) (fun h => absurd rfl h) (by have : (startJ bs).n = 0 := rfl; omega)
end Go.Proofs.YtbpaepkcchpmbaaGreat

/-
  Walk: SessionForms: sessions, gaps, items that are none.
  SessionForms' drawn region that turns the row: its facts, one by one (written by gen/sesf.py).
  Walk: SessionForms, the walk itself.
-/
import Derived.Test.YtgdeaddfkcokpaaSesBr
import Derived.Deep.DeepCutAuto
import Derived.Deep.CutBlock
import Derived.OpenShut
import Derived.Test.YtgdeaddfkcokpaaRf
import Derived.Test.YtgdeaddfkcokpaaHead2
namespace Go.Proofs.Ytgdeaddfkcokpaa
open Go.RowKit

/-! Plain: what may not be. -/
theorem no_ses {g : Int} {ss : List Se} {s : Se} (hs : s ∈ ss) (h : ¬ (fitB s.a 1 = true ∧ s.a.n ≠ 0 ∧ s.f = s.a.f.t ∧ s.l = s.a.l.t)) : sesB g [] ss = false := by
  cases hb : sesB g [] ss with
  | false => rfl
  | true =>
    obtain ⟨a1, a2, a3, a4, _⟩ := (ses_ok hb).1.fit s hs
    exact absurd ⟨a1, a2, a3, a4⟩ h
theorem no_gap {g : Int} {ss : List Se} (h : ¬ (1 ≤ g ∧ g ≤ 1073741824)) : sesB g [] ss = false := by
  cases hb : sesB g [] ss with
  | false => rfl
  | true => exact absurd (wi_true (ses_ok hb).2.1) h
theorem no_item {ss : List Se} {x : It} (h : ¬ (itemB x = true ∧ x.s = serS ss [x])) : itsB ss [x] = false := by
  cases hb : itsB ss [x] with
  | false => rfl
  | true => exact absurd (its_all hb x (by simp)) h
abbrev fi1 : It := ⟨0, 10, 1, 5⟩
abbrev fi2 : It := ⟨0, 20, 2, 6⟩
abbrev fs1 : Se := ⟨10, 10, oneAc fi1 []⟩
abbrev fs2 : Se := ⟨20, 20, oneAc fi2 []⟩
theorem fo_ok : ItsOk 0 [fi1, fi2] := fun x hx => by
  simp only [List.mem_cons, List.not_mem_nil, or_false] at hx
  rcases hx with rfl | rfl <;> decide
theorem fo_two : SS 3 [fi1, fi2] = [fs1, fs2] := by
  rw [ss_runs (xs := [fi1, fi2]) (by decide) (Bs := [[fi1], [fi2]]) (fun x hx y hy => by
    simp only [List.mem_cons, List.not_mem_nil, or_false] at hx hy
    rcases hx with rfl | rfl <;> rcases hy with rfl | rfl <;> first | exact .inl rfl | exact .inr (.inr (by decide))) ⟨by simp, conn_one _ _, fun x hx y hy => by
    simp only [List.flatten_cons, List.flatten_nil, List.append_nil, List.mem_singleton] at hx hy; subst hx hy; decide, by simp, conn_one _ _, (fun x hx y hy => by cases hy), trivial⟩ (List.Perm.refl _)]
  simp only [List.map_cons, List.map_nil, seOf, blk_one]
  rfl
theorem fo_may : sesB 3 [] [fs1, fs2] = true := by rw [← fo_two]; exact ss_may (by decide) fo_ok (by decide)

/-! What stands before and behind the switch. -/
/-- The two sessions, in a row that may be written; the item. -/
structure FmS (w : World) (g : Nat) (c : Nat) (rs : List Rs) (B1 B2 : Option Addr) (k1 c1 k2 c2 gy : Nat) (wx : World) : Prop where
  own : RowE wx w.heap.size (.slice (some ⟨g, 0, none⟩) 2 c) rs
  rs2 : rs.map (·.s) = [fs1, fs2]
  box : ∃ cur, Has wx g 60 cur
  x1 : SesAt wx g 0 fs1 B1 k1 c1
  x2 : SesAt wx g 15 fs2 B2 k2 c2
  y : Has wx gy 23 #[.int .i64 0, .int .i64 15, .int .i64 3, .int .i64 1]
  keep : Below w.heap.size w wx
  g0 : w.heap.size ≤ g
  y0 : w.heap.size ≤ gy
  h1 : ∀ ad, B1 = some ad → ∃ cs, Has wx ad.block 3 cs
  h2 : ∀ ad, B2 = some ad → ∃ cs, Has wx ad.block 3 cs
/-- Sessions, a gap and an item of which nothing is made. -/
def FmR (w : World) (gy : Nat) (A : Option Addr) (n c : Nat) (gp : Int) (raw : Bool) (wx : World) : Prop :=
  ∃ (ss : List Se) (y : It), Sess wx A n ss ∧ n ≤ 3 ∧ n ≤ c ∧ Has wx gy 23 #[.int .i64 y.s, .int .i64 y.t, .int .i64 y.q, .int .i64 y.v] ∧ sesB gp [] ss = !raw ∧ (sesB gp [] ss && itsB ss [y]) = false ∧ Below w.heap.size w wx

theorem cell_put {w : World} {g i j : Nat} {t : TypeId} {cs : Array Value} (h : Has w g t cs) (hi : i < cs.size) (v : Value) : (w.setCell ⟨g, i, none⟩ v).cell? ⟨g, j, none⟩ = if i = j then some v else w.cell? ⟨g, j, none⟩ := by
  rw [(h.put i v).cell, h.cell]
  by_cases e : i = j
  · subst e; rw [if_pos rfl, Array.getElem?_setIfInBounds_self_of_lt hi]
  · rw [if_neg e, Array.getElem?_setIfInBounds_ne e]
theorem ints_put {w : World} {A : Option Addr} {k : Nat} {xs : List Int} (h : Ints w A k xs) {g i : Nat} {v : Value} (hf : ∀ ad, A = some ad → ad.block ≠ g) : Ints (w.setCell ⟨g, i, none⟩ v) A k xs :=
  ⟨h.1, fun hk => by
    obtain ⟨b, o, e, hc⟩ := h.2 hk
    refine ⟨b, o, e, fun j hj => ?_⟩
    have hb : b < w.heap.size := block_lt_of_cell (hc j hj)
    have hne : b ≠ g := hf _ e
    rw [← hc j hj]
    unfold World.cell?
    rw [heap_setCell_other w _ b v hne]⟩
/-- One cell of a session turned. -/
theorem ses_put {w : World} {g o i : Nat} {t : TypeId} {cs : Array Value} {s s' : Se} {B : Option Addr} {k c : Nat} (hh : Has w g t cs) (hi : o + i < cs.size) (hi15 : i < 15) (h : SesAt w g o s B k c) (hf : ∀ ad, B = some ad → ad.block ≠ g) {v : Value} (e : (sesC s B k c).setIfInBounds i v = sesC s' B k c) (eh : s'.a.h = s.a.h) :
    SesAt (w.setCell ⟨g, o + i, none⟩ v) g o s' B k c := by
  refine ⟨fun j u hu => ?_, by rw [eh]; exact ints_put h.2.1 hf, h.2.2⟩
  have hu2 : (sesC s' B k c)[j]? = some u := by simpa using hu
  rw [← e] at hu2
  rw [cell_put hh hi]
  by_cases ej : i = j
  · subst ej
    rw [Array.getElem?_setIfInBounds_self_of_lt (by rw [sesC_size]; exact hi15)] at hu2
    rw [if_pos rfl]; exact hu2
  · rw [Array.getElem?_setIfInBounds_ne ej] at hu2
    rw [if_neg (by omega)]
    exact h.at_ j hu2
/-- Another session of the row stays. -/
theorem ses_stay {w : World} {g o p i : Nat} {t : TypeId} {cs : Array Value} {s : Se} {B : Option Addr} {k c : Nat} (hh : Has w g t cs) (hi : p + i < cs.size) (hd : p + i < o ∨ o + 15 ≤ p + i) (h : SesAt w g o s B k c) (hf : ∀ ad, B = some ad → ad.block ≠ g) (v : Value) :
    SesAt (w.setCell ⟨g, p + i, none⟩ v) g o s B k c := by
  refine ⟨fun j u hu => ?_, ints_put h.2.1 hf, h.2.2⟩
  have hj : j < 15 := by have := (List.getElem?_eq_some_iff.1 hu).1; rwa [sesC_len] at this
  rw [cell_put hh hi, if_neg (by omega)]
  exact h.1 j u hu
theorem sess_two {w : World} {g : Nat} {s1 s2 : Se} {B1 B2 : Option Addr} {k1 c1 k2 c2 : Nat} (h1 : SesAt w g 0 s1 B1 k1 c1) (h2 : SesAt w g 15 s2 B2 k2 c2) : Sess w (some ⟨g, 0, none⟩) 2 [s1, s2] :=
  ⟨rfl, fun _ => ⟨g, 0, rfl, fun i hi => by
    match i, hi with
    | 0, _ => exact ⟨B1, k1, c1, h1⟩
    | 1, _ => exact ⟨B2, k2, c2, h2⟩⟩⟩
theorem cells_two {w : World} {g : Nat} {t : TypeId} {cs : Array Value} {s : Se} {B : Option Addr} {k c : Nat} (hh : Has w g t cs) (h : SesAt w g 15 s B k c) : 30 ≤ cs.size := by
  have := h.at_ 14 (sesC_14 _ _ _ _)
  rw [hh.cell] at this
  have := (Array.getElem?_eq_some_iff.1 this).1
  omega
section
variable {w wx : World} {g c : Nat} {rs : List Rs} {B1 B2 : Option Addr} {k1 c1 k2 c2 gy : Nat} (S : FmS w g c rs B1 B2 k1 c1 k2 c2 gy wx)
include S
theorem FmS.two : 2 ≤ c := S.own.cap.1
theorem FmS.ne : gy ≠ g := by
  obtain ⟨cur, hc⟩ := S.box
  exact fun e => by subst e; exact has_types hc S.y (by decide)
theorem FmS.f1 : ∀ ad, B1 = some ad → ad.block ≠ g := fun ad ha e => by
  obtain ⟨cur, hc⟩ := S.box
  obtain ⟨cs, h⟩ := S.h1 ad ha
  rw [e] at h
  exact has_types h hc (by decide)
theorem FmS.f2 : ∀ ad, B2 = some ad → ad.block ≠ g := fun ad ha e => by
  obtain ⟨cur, hc⟩ := S.box
  obtain ⟨cs, h⟩ := S.h2 ad ha
  rw [e] at h
  exact has_types h hc (by decide)
/-- A gap that is none. -/
theorem fm_gap {gp : Int} (h : ¬ (1 ≤ gp ∧ gp ≤ 1073741824)) : FmR w gy (some ⟨g, 0, none⟩) 2 c gp true wx :=
  ⟨[fs1, fs2], ⟨0, 15, 3, 1⟩, sess_two S.x1 S.x2, by omega, S.two, S.y, no_gap h, by rw [no_gap h]; rfl, S.keep⟩
/-- A number of the first session turned. -/
theorem fm_first {s' : Se} (i : Nat) (hi : i < 15) {v : Value} (e : ∀ B k c, (sesC fs1 B k c).setIfInBounds i v = sesC s' B k c) (eh : s'.a.h = [1]) (hn : ¬ (fitB s'.a 1 = true ∧ s'.a.n ≠ 0 ∧ s'.f = s'.a.f.t ∧ s'.l = s'.a.l.t)) : FmR w gy (some ⟨g, 0, none⟩) 2 c 3 true (wx.setCell ⟨g, i, none⟩ v) := by
  obtain ⟨cur, hc⟩ := S.box
  have h30 := cells_two hc S.x2
  have a1 := ses_put (o := 0) (i := i) (v := v) hc (by omega) hi S.x1 S.f1 (e _ _ _) (by rw [eh]; rfl)
  have a2 := ses_stay (p := 0) (i := i) hc (by omega) (.inl (by omega)) S.x2 S.f2 v
  rw [Nat.zero_add] at a1 a2
  have hno := no_ses (g := 3) (ss := [s', fs2]) (s := s') (by simp) hn
  exact ⟨[s', fs2], ⟨0, 15, 3, 1⟩, sess_two a1 a2, by omega, S.two, S.y.putFar S.ne v, hno, by rw [hno]; rfl, S.keep.setCell S.g0 v⟩
/-- A number of the second session turned. -/
theorem fm_second {s' : Se} (i : Nat) (hi : i < 15) {v : Value} (e : ∀ B k c, (sesC fs2 B k c).setIfInBounds i v = sesC s' B k c) (eh : s'.a.h = [1]) (hn : ¬ (fitB s'.a 1 = true ∧ s'.a.n ≠ 0 ∧ s'.f = s'.a.f.t ∧ s'.l = s'.a.l.t)) : FmR w gy (some ⟨g, 0, none⟩) 2 c 3 true (wx.setCell ⟨g, 15 + i, none⟩ v) := by
  obtain ⟨cur, hc⟩ := S.box
  have h30 := cells_two hc S.x2
  have a2 := ses_put (o := 15) (i := i) (v := v) hc (by omega) hi S.x2 S.f2 (e _ _ _) (by rw [eh]; rfl)
  have a1 := ses_stay (p := 15) (o := 0) (i := i) hc (by omega) (.inr (by omega)) S.x1 S.f1 v
  have hno := no_ses (g := 3) (ss := [fs1, s']) (s := s') (by simp) hn
  exact ⟨[fs1, s'], ⟨0, 15, 3, 1⟩, sess_two a1 a2, by omega, S.two, S.y.putFar S.ne v, hno, by rw [hno]; rfl, S.keep.setCell S.g0 v⟩
/-- A part of the item turned. -/
theorem fm_item {y : It} (i : Nat) {v : Value} (e : (#[.int .i64 0, .int .i64 15, .int .i64 3, .int .i64 1] : Array Value).setIfInBounds i v = #[.int .i64 y.s, .int .i64 y.t, .int .i64 y.q, .int .i64 y.v]) (hn : ¬ (itemB y = true ∧ y.s = 0)) : FmR w gy (some ⟨g, 0, none⟩) 2 c 3 false (wx.setCell ⟨gy, i, none⟩ v) := by
  have far : ∀ {o : Nat} {s : Se} {B : Option Addr} {k c : Nat}, SesAt wx g o s B k c → Has wx gy 23 #[.int .i64 0, .int .i64 15, .int .i64 3, .int .i64 1] → (∀ ad, B = some ad → ad.block ≠ gy) → SesAt (wx.setCell ⟨gy, i, none⟩ v) g o s B k c := fun h hy hf =>
    ⟨fun j u hu => by
      rw [← h.1 j u hu]
      unfold World.cell?
      rw [heap_setCell_other wx _ g v (show g ≠ gy from fun e => S.ne e.symm)], ints_put h.2.1 hf, h.2.2⟩
  have nb : ∀ {B : Option Addr}, (∀ ad, B = some ad → ∃ cs, Has wx ad.block 3 cs) → ∀ ad, B = some ad → ad.block ≠ gy := fun h ad ea eb => by
    obtain ⟨cs, h⟩ := h ad ea
    rw [eb] at h
    exact has_types h S.y (by decide)
  have hno : itsB [fs1, fs2] [y] = false := no_item hn
  exact ⟨[fs1, fs2], y, sess_two (far S.x1 S.y (nb S.h1)) (far S.x2 S.y (nb S.h2)), by omega, S.two, e ▸ S.y.put i v, fo_may, by rw [hno, Bool.and_false], S.keep.setCell S.y0 v⟩
end

end Go.Proofs.Ytgdeaddfkcokpaa

namespace Go.Proofs.Ytgdeaddfkcokpaa
open Go.RowKit

/-- A row of one session. -/
def boxS (N : Nat) (s : Se) (B : Option Addr) (k c : Nat) : Fact := fun v w => ∃ g, v = .slice (some ⟨g, 0, none⟩) 1 1 ∧ N ≤ g ∧ Has w g 60 (sesC s B k c)
theorem mono_boxS (N : Nat) (s : Se) (B : Option Addr) (k c : Nat) : Mono (boxS N s B k c) := fun _ _ _ hb ⟨g, e, hn, h⟩ => ⟨g, e, hn, has_below h hb⟩
theorem rf_box {D : List (Option Tmp)} {Φ : Fact} {o : Oper} {a : Act} {w : World} (hw : Region.wanted o (yieldD D a.tmps) = true) {t : Tmp} (hd : o.dst = some t) (x : Operand) (ho : o.op = .buildSlice 45 1 #[(0, x)]) {s : Se} {B : Option Addr} {k c : Nat} (hx : a.eval x = .agg (sesC s B k c))
    (h : ∀ w', Has w' w.heap.size 60 (sesC s B k c) → Φ (.slice (some ⟨w.heap.size, 0, none⟩) 1 1) w') : StepD Try.prog D Φ o a w :=
  step_val hw hd _ (w.alloc (.cells (sesC s B k c) 60)) (by
    unfold execOp
    rw [ho]
    simp only [List.map_toArray, List.map_cons, List.map_nil, hx, Sem.run_bind, lit1s_run, Result.andThen_ok]
    rfl) ((Below.refl _ _).alloc (Nat.le_refl _) _) (h _ (Has.made _ _ _))
def sf24D : List (Option Tmp) := [some 77, some 78, some 79, some 80, some 81, some 82, some 83, some 84, some 85, some 6]
def sf24F (s1 s2 : Se) (B1 B2 : Option Addr) (k1 c1 k2 c2 g c N : Nat) : List Fact := [isV (.slice (some ⟨g, 0, none⟩) 2 c), isV (.pointer (some ⟨g, 15, none⟩)), isV (.agg (sesC s2 B2 k2 c2)), boxS N s2 B2 k2 c2, isV (.slice (some ⟨g, 0, none⟩) 2 c), isV (.pointer (some ⟨g, 0, none⟩)), isV (.agg (sesC s1 B1 k1 c1)), boxS N s1 B1 k1 c1]
theorem sf24F_mono (s1 s2 : Se) (B1 B2 : Option Addr) (k1 c1 k2 c2 g c N : Nat) : ∀ φ ∈ sf24F s1 s2 B1 B2 k1 c1 k2 c2 g c N, Mono φ := by
  unfold sf24F
  repeat (first | exact monos_nil | (refine monos_cons (mono_isV _) ?_) | (refine monos_cons (mono_boxS _ _ _ _ _) ?_))
structure sf24S (s1 s2 : Se) (B1 B2 : Option Addr) (k1 c1 k2 c2 g c N : Nat) (a0 : Act) (w0 : World) : Prop where
  size : a0.tmps.size = 124
  v6 : a0.tmps.getD 6 undef = .slice (some ⟨g, 0, none⟩) 2 c
  hN : N ≤ w0.heap.size
  x1 : SesAt w0 g 0 s1 B1 k1 c1
  x2 : SesAt w0 g 15 s2 B2 k2 c2
section
variable {s1 s2 : Se} {B1 B2 : Option Addr} {k1 c1 k2 c2 g c N : Nat} {a0 : Act} {w0 : World} (S : sf24S s1 s2 B1 B2 k1 c1 k2 c2 g c N a0 w0)
include S
set_option maxRecDepth 100000 in
set_option maxHeartbeats 8000000 in
theorem sf24_ok : AllOps (fun j o => ∀ (a : Act) (w : World), Below w0.heap.size w0 w → FrD (sf24D.take 8) a0 a → needs sf24D (sf24F s1 s2 B1 B2 k1 c1 k2 c2 g c N) a w o.after.toList → StepD Try.prog sf24D (factAt (sf24F s1 s2 B1 B2 k1 c1 k2 c2 g c N) j) o a w) 0 ((opsOf 24 Try.f6).take 8) := by
  simp only [opsOf, Try.f6, opsAt, Option.bind, Option.or, Option.getD, reduceCtorEq, if_true, if_false, Nat.reduceEqDiff, List.take_succ_cons, List.take_zero]
  refine ⟨?_, ?_⟩
  · intro _a _w _hB hF _hd
    exact step_move (guard_none rfl) rfl _ rfl ((hF.other 6 rfl).trans S.v6)
  refine ⟨?_, ?_⟩
  · intro a _w _hB _hF hd
    have h77 : a.tmps.getD 77 undef = .slice (some ⟨g, 0, none⟩) 2 c := hd.1 rfl
    exact rf_index (guard_none rfl) rfl _ _ _ rfl Try.underlying45 15 (fun _ => by kernel_rfl) _ _ _ _ 1 _ h77 rfl rfl (by decide) rfl
  refine ⟨?_, ?_⟩
  · intro a _w hB _hF hd
    have h78 : a.tmps.getD 78 undef = .pointer (some ⟨g, 15, none⟩) := hd.1 rfl
    exact rf_loadS (guard_none rfl) rfl _ _ rfl _ _ h78 _ (S.x2.below hB).1 Try.underlying60 rfl Try.sizeSes rfl
  refine ⟨?_, ?_⟩
  · intro a w hB _hF hd
    have h79 : a.tmps.getD 79 undef = .agg (sesC s2 B2 k2 c2) := hd.1 rfl
    exact rf_box (guard_none rfl) rfl _ rfl h79 (fun w' hh => ⟨_, rfl, Nat.le_trans S.hN hB.size, hh⟩)
  refine ⟨?_, ?_⟩
  · intro _a _w _hB hF _hd
    exact step_move (guard_none rfl) rfl _ rfl ((hF.other 6 rfl).trans S.v6)
  refine ⟨?_, ?_⟩
  · intro a _w _hB _hF hd
    have h81 : a.tmps.getD 81 undef = .slice (some ⟨g, 0, none⟩) 2 c := hd.1 rfl
    exact rf_index (guard_none rfl) rfl _ _ _ rfl Try.underlying45 15 (fun _ => by kernel_rfl) _ _ _ _ 0 _ h81 rfl rfl (by decide) rfl
  refine ⟨?_, ?_⟩
  · intro a _w hB _hF hd
    have h82 : a.tmps.getD 82 undef = .pointer (some ⟨g, 0, none⟩) := hd.1 rfl
    exact rf_loadS (guard_none rfl) rfl _ _ rfl _ _ h82 _ (S.x1.below hB).1 Try.underlying60 rfl Try.sizeSes rfl
  refine ⟨?_, ?_⟩
  · intro a w hB _hF hd
    have h83 : a.tmps.getD 83 undef = .agg (sesC s1 B1 k1 c1) := hd.1 rfl
    exact rf_box (guard_none rfl) rfl _ rfl h83 (fun w' hh => ⟨_, rfl, Nat.le_trans S.hN hB.size, hh⟩)
  trivial
theorem sf24_any {Q : Exit → Act → World → Prop} {l : List Oper} (hl : opsOf 24 Try.f6 = l) (hend : ∀ (g80 : Nat), ∀ (g84 : Nat), ∀ w : World, Below w0.heap.size w0 w → (N ≤ g80 ∧ Has w g80 60 (sesC s2 B2 k2 c2)) → (N ≤ g84 ∧ Has w g84 60 (sesC s1 B1 k1 c1)) → wpList Try.prog l.toArray Q (l.drop 8) (putAll a0 [(77, .slice (some ⟨g, 0, none⟩) 2 c), (78, .pointer (some ⟨g, 15, none⟩)), (79, .agg (sesC s2 B2 k2 c2)), (80, .slice (some ⟨g80, 0, none⟩) 1 1), (81, .slice (some ⟨g, 0, none⟩) 2 c), (82, .pointer (some ⟨g, 0, none⟩)), (83, .agg (sesC s1 B1 k1 c1)), (84, .slice (some ⟨g84, 0, none⟩) 1 1)]) w) :
    (Code.region 24 l.toArray true).wp Try.prog Q a0 w0 := by
  subst hl
  refine region_head2 (sf24F s1 s2 B1 B2 k1 c1 k2 c2 g c N) sf24D 8 124 S.size rfl (by kernel_rfl) (by kernel_rfl) (by kernel_rfl) (sf24F_mono _ _ _ _ _ _ _ _ _ _ _) (sf24_ok S) fun a w hB hF h => ?_
  obtain ⟨g80, h80, p80⟩ : boxS N s2 B2 k2 c2 (a.tmps.getD 80 undef) w := h 3 (some 80) (by omega) rfl
  obtain ⟨g84, h84, p84⟩ : boxS N s1 B1 k1 c1 (a.tmps.getD 84 undef) w := h 7 (some 84) (by omega) rfl
  have hv : valsAre a [(77, .slice (some ⟨g, 0, none⟩) 2 c), (78, .pointer (some ⟨g, 15, none⟩)), (79, .agg (sesC s2 B2 k2 c2)), (80, .slice (some ⟨g80, 0, none⟩) 1 1), (81, .slice (some ⟨g, 0, none⟩) 2 c), (82, .pointer (some ⟨g, 0, none⟩)), (83, .agg (sesC s1 B1 k1 c1)), (84, .slice (some ⟨g84, 0, none⟩) 1 1)] := by
    refine ⟨?_, ?_, ?_, ?_, ?_, ?_, ?_, ?_, trivial⟩
    · exact h 0 (some 77) (by omega) rfl
    · exact h 1 (some 78) (by omega) rfl
    · exact h 2 (some 79) (by omega) rfl
    · exact h80
    · exact h 4 (some 81) (by omega) rfl
    · exact h 5 (some 82) (by omega) rfl
    · exact h 6 (some 83) (by omega) rfl
    · exact h84
  rw [frame_is hF _ hv (by rfl) (by rfl)]
  exact hend g80 g84 w hB p80 p84
end

end Go.Proofs.Ytgdeaddfkcokpaa

namespace Go.Proofs.Ytgdeaddfkcokpaa
open Go.RowKit

theorem OwnI.typed {w : World} {base : Nat} {A : Option Addr} {n c : Nat} {xs : List Int} (h : OwnI w base (.slice A n c) xs) : ∀ ad, A = some ad → ∃ cs, Has w ad.block 3 cs := fun ad e => by
  rcases h.2 with ⟨e0, _⟩ | ⟨g, cap, cur, e0, _, hh, _⟩
  · injection e0 with e1; rw [e1] at e; cases e
  · injection e0 with e1
    rw [e1] at e
    injection e with e
    subst e
    exact ⟨cur, hh⟩
theorem two_of {α : Type} {l : List α} (h : l.length = 2) : ∃ a b, l = [a, b] := by
  match l, h with
  | [a, b], _ => exact ⟨a, b, rfl⟩
theorem fm_start {w : World} {base : Nat} {A : Option Addr} {c : Nat} {rs : List Rs} (h : OwnE w base (.slice A 2 c) rs) (e : rs.map (·.s) = [fs1, fs2]) :
    ∃ g B1 B2 k1 c1 k2 c2, A = some ⟨g, 0, none⟩ ∧ base ≤ g ∧ SesAt w g 0 fs1 B1 k1 c1 ∧ SesAt w g 15 fs2 B2 k2 c2 ∧ (∃ cur, Has w g 60 cur) ∧ (∀ ad, B1 = some ad → ∃ cs, Has w ad.block 3 cs) ∧ (∀ ad, B2 = some ad → ∃ cs, Has w ad.block 3 cs) := by
  obtain ⟨hl, g, rfl, hg, hi⟩ := h.row.cells (by decide)
  obtain ⟨r1, r2, rfl⟩ := two_of hl
  rw [List.map_cons, List.map_cons, List.map_nil] at e
  injection e with e1 e
  injection e with e2 _
  have a1 := hi 0 (by simp)
  have a2 := hi 1 (by simp)
  simp only [List.getElem_cons_zero, List.getElem_cons_succ] at a1 a2
  rw [e1, Nat.zero_mul] at a1
  rw [e2, Nat.one_mul] at a2
  refine ⟨g, r1.A, r2.A, r1.k, r1.c, r2.k, r2.c, rfl, hg, a1, a2, ?_, (h.own r1 (by simp)).typed, (h.own r2 (by simp)).typed⟩
  rcases h.row.row.2 with ⟨ev, _⟩ | ⟨g', cap, cur, ev, _, hh, _⟩
  · cases ev
  · injection ev with ev
    injection ev with ev
    injection ev with ev
    subst ev
    exact ⟨cur, hh⟩
theorem FmS.below {w wx wy : World} {g c : Nat} {rs : List Rs} {B1 B2 : Option Addr} {k1 c1 k2 c2 gy : Nat} (S : FmS w g c rs B1 B2 k1 c1 k2 c2 gy wx) (hb : Below wx.heap.size wx wy) : FmS w g c rs B1 B2 k1 c1 k2 c2 gy wy :=
  ⟨S.own.below hb, S.rs2, by obtain ⟨cur, h⟩ := S.box; exact ⟨cur, has_below h hb⟩, S.x1.below hb, S.x2.below hb, has_below S.y hb, S.keep.trans (hb.mono S.keep.size), S.g0, S.y0, fun ad e => by obtain ⟨cs, h⟩ := S.h1 ad e; exact ⟨cs, has_below h hb⟩, fun ad e => by obtain ⟨cs, h⟩ := S.h2 ad e; exact ⟨cs, has_below h hb⟩⟩
theorem rowE_one {w : World} {g : Nat} {r : Rs} (h : Has w g 60 (sesC r.s r.A r.k r.c)) (hI : Ints w r.A r.k r.s.a.h) (hk : r.k ≤ r.c ∧ r.c ≤ maxLen) (hf : 0 < r.k → ∀ ad, r.A = some ad → ad.block ≠ g) : RowE w g (.slice (some ⟨g, 0, none⟩) 1 1) [r] :=
  ⟨⟨by rw [rowE_len], .inr ⟨g, 1, sesC r.s r.A r.k r.c, rfl, Nat.le_refl _, h, Nat.le_refl _, by unfold maxLen; omega, rfl, by simp [rowE]; exact List.take_of_length_le (by rw [sesC_len]; omega)⟩⟩, fun z hz => by
    simp only [List.mem_singleton] at hz; subst hz; exact ⟨hI, hk⟩, fun z hz h0 ad ea e => by
    simp only [List.mem_singleton] at hz; subst hz
    have : g = ad.block := by simpa [Value.ownBlock] using e
    exact hf h0 ad ea this.symm⟩

set_option maxRecDepth 100000 in
set_option maxHeartbeats 4000000 in
theorem sforms_any (a0 a1 : Int) (w : World) (w0 : (Lit.int .i64 a0).wf = true) (_ : (Lit.int .i64 a1).wf = true) :
    Calls Try.prog 6 #[.int .i64 a0, .int .i64 a1] w fun e w' => e = .returned (.bool true) ∧ Below w.heap.size w w' := by
  have b0 := bounds_i64 w0
  obtain ⟨d, hd5, hd3, hd4⟩ : ∃ d : Int, bits .and .i64 a1 1023 = d ∧ 0 ≤ d ∧ d ≤ 1023 := ⟨_, mask1023 a1, by omega, by omega⟩
  have HI : Hid (∀ (s t q v : Int) (W : World), Calls Try.prog 34 #[.int .i64 s, .int .i64 t, .int .i64 q, .int .i64 v] W fun e w' => e = .returned (.agg #[.int .i64 s, .int .i64 t, .int .i64 q, .int .i64 v]) ∧ Below W.heap.size W w') := sitem_any
  have HAL : Hid (∀ (W : World) o, Below W.heap.size W (W.alloc o)) := fun W o => (Below.refl _ _).alloc (Nat.le_refl _) o
  have C1 : Hid (∀ (W : World) (g : Nat), Has W g 23 (([fi1, fi2] : List It).flatMap itemL).toArray → Calls Try.prog 26 #[.slice none 0 0, .int .i64 3, .slice none 0 0, .slice (some ⟨g, 0, none⟩) 2 2] W fun e w' => ∃ A c rs, e = .returned (.tuple #[.slice A 2 c, .int .i64 0]) ∧ OwnE w' W.heap.size (.slice A 2 c) rs ∧ rs.map (·.s) = [fs1, fs2] ∧ 2 ≤ c ∧ Below W.heap.size W w') := fun W g hg =>
    (add_items 3 0 (by decide) [] [fi1, fi2] (fun x hx => by cases hx) fo_ok (by decide) none 0 0 (some ⟨g, 0, none⟩) 2 2 W (Sess.nil _ _) (Nat.le_refl _) (by decide) (items_has hg rfl) (fun e => by cases e) (Nat.le_refl _)).mono fun e w' h => by
      rw [List.nil_append, fo_two] at h
      exact good_lit (n := 2) rfl h
  have C2 : Hid (∀ (W : World) (A : Option Addr) (n c : Nat) (gp : Int) (ss : List Se), Sess W A n ss → n ≤ 3 → Calls Try.prog 30 #[.slice A n c, .int .i64 gp, .slice none 0 0] W fun e w' => e = .returned (.bool (sesB gp [] ss)) ∧ Below W.heap.size W w') := fun W A n c gp ss hs hn =>
    sesmay_any A n c ss gp none 0 0 [] W hs (by omega) Ints.nil (Nat.zero_le _)
  have C3 : Hid (∀ (W : World) (A : Option Addr) (n c : Nat) (gp : Int) (ss : List Se) (g : Nat) (y : It), Sess W A n ss → n ≤ 3 → Has W g 23 (([y] : List It).flatMap itemL).toArray → (sesB gp [] ss && itsB ss [y]) = false → Calls Try.prog 26 #[.slice A n c, .int .i64 gp, .slice none 0 0, .slice (some ⟨g, 0, none⟩) 1 1] W (BadS 600 W)) := fun W A n c gp ss g y hs hn hg hb =>
    sesadd_bad A n c ss gp none 0 0 [] (some ⟨g, 0, none⟩) 1 1 [y] W hs Ints.nil (Nat.zero_le _) (items_has hg rfl) (by omega) hb
  go_enter Try.func6, Try.ntmps6
  go_wp2_with fail
  refine (sawake_any _).mono ?_
  rintro e v0 ⟨rfl, hb⟩
  have HW0 := Lib.hid hb
  clear hb
  go_wp2_with fail
  refine (HI.out _ _ _ _ _).mono ?_
  rintro e v1 ⟨rfl, hb⟩
  have HW1 := Lib.hid (HW0.out.trans (hb.mono HW0.out.size))
  clear hb
  go_wp2_with fail
  refine (HI.out _ _ _ _ _).mono ?_
  rintro e v2 ⟨rfl, hb⟩
  have HW2 := Lib.hid (HW1.out.trans (hb.mono HW1.out.size))
  clear hb HW0 HW1
  go_wp2_with fail
  refine (C1.out _ _ (Has.made _ _ _)).mono ?_
  rintro e w1 ⟨A1, c1, rs, rfl, o1, e1, n1, b1⟩
  have HSZ : Hid (w.heap.size ≤ v2.heap.size) := HW2.out.size
  have HO1 := Lib.hid (o1.mono (show w.heap.size ≤ _ by have := HSZ.out; simp; omega))
  have HE1 := Lib.hid e1
  have HW3 := Lib.hid (HW2.out.trans (((HAL.out _ _).trans (b1.mono (by simp))).mono HW2.out.size))
  clear o1 b1 e1 HW2 HSZ
  go_wp2_with (go_at_call 17; refine (num_any _ _).mono ?_; rintro e w' ⟨rfl, rfl⟩)
  refine (C2.out _ _ _ _ _ _ (HO1.out.sess HE1.out) (by decide)).mono ?_
  rintro e w2 ⟨rfl, hb⟩
  rw [fo_may]
  have HO2 := Lib.hid (HO1.out.below hb)
  have HW4 := Lib.hid (HW3.out.trans (hb.mono HW3.out.size))
  clear hb HO1 HW3
  go_wp2_with fail
  refine (HI.out _ _ _ _ _).mono ?_
  rintro e w3 ⟨rfl, hb⟩
  have HO3 := Lib.hid (HO2.out.below hb)
  have HW5 := Lib.hid (HW4.out.trans (hb.mono HW4.out.size))
  clear hb HO2 HW4
  obtain ⟨g, B1, B2, k1, c1', k2, c2, rfl, hg0, x1, x2, bx, t1, t2⟩ := fm_start HO3.out HE1.out
  have S0 : Hid (∀ wx, Below w3.heap.size w3 wx → Has wx w3.heap.size 23 #[.int .i64 0, .int .i64 15, .int .i64 3, .int .i64 1] → FmS w g c1 rs B1 B2 k1 c1' k2 c2 w3.heap.size wx) := fun wx hb hy =>
    ⟨HO3.out.row.below hb, HE1.out, by obtain ⟨cur, h⟩ := bx; exact ⟨cur, has_below h hb⟩, x1.below hb, x2.below hb, hy, HW5.out.trans (hb.mono HW5.out.size), hg0, HW5.out.size, fun ad e => by obtain ⟨cs, h⟩ := t1 ad e; exact ⟨cs, has_below h hb⟩, fun ad e => by obtain ⟨cs, h⟩ := t2 ad e; exact ⟨cs, has_below h hb⟩⟩
  clear x1 x2 bx t1 t2 HO3
  go_upto_region 9 with (refine store_newI rfl _ _ rfl rfl rfl (z := ⟨0, 15, 3, 1⟩) rfl ?_; intro w4 hb4 hs4; have S1 := Lib.hid (S0.out _ hb4 hs4); clear hb4 hs4)
  clear S0 HW5
  generalize w3.heap.size = gy at S1 ⊢
  go_upto_block 0 with fail
  obtain ⟨k, hk, ek⟩ : ∃ k : Nat, k < 10 ∧ (IntKind.u64.wrap a0).tmod 10 = k := by
    have h : 0 ≤ IntKind.u64.wrap a0 := by simp [IntKind.wrap, IntKind.bits, IntKind.signed]; omega
    have e : (IntKind.u64.wrap a0).tmod 10 = IntKind.u64.wrap a0 % 10 := Int.tmod_eq_emod_of_nonneg h
    exact ⟨(IntKind.u64.wrap a0 % 10).toNat, by omega, by omega⟩
  rw [ek]
  clear ek
  go_cut [6, 8, 10] (fun sv gv rv wx => ∃ (A : Option Addr) (n c : Nat) (gp : Int) (raw : Bool), sv = .slice A n c ∧ gv = .int .i64 gp ∧ rv = .bool raw ∧ Hid (FmR w gy A n c gp raw wx))
  case first =>
    obtain ⟨cur, hbx⟩ := S1.out.box
    have mG : ∀ i, w4.frozen? ⟨g, i, none⟩ = false := fun i => hbx.mark i
    have cY : ∀ i, w4.cell? ⟨gy, i, none⟩ = (#[.int .i64 0, .int .i64 15, .int .i64 3, .int .i64 1] : Array Value)[i]? := fun i => S1.out.y.cell i
    have mY : ∀ i, w4.frozen? ⟨gy, i, none⟩ = false := fun i => S1.out.y.mark i
    have g0 : w4.cell? ⟨g, 0, none⟩ = some (.int .i64 10) := S1.out.x1.cell
    have g2 : w4.cell? ⟨g, 2, none⟩ = some (.int .i64 1) := S1.out.x1.at_ 2 (sesC_2 _ _ _ _)
    have g16 : w4.cell? ⟨g, 16, none⟩ = some (.int .i64 20) := S1.out.x2.at_ 1 (sesC_1 _ _ _ _)
    have hk10 : k = 0 ∨ k = 1 ∨ k = 2 ∨ k = 3 ∨ k = 4 ∨ k = 5 ∨ k = 6 ∨ k = 7 ∨ k = 8 ∨ k = 9 := by omega
    clear hk hbx C1 C2 C3 HI b0 w0
    rcases hk10 with rfl | rfl | rfl | rfl | rfl | rfl | rfl | rfl | rfl | rfl
    · go_wp2_with fail
      go_meet
      case rel => exact ⟨_, _, _, _, _, rfl, rfl, rfl, fm_gap S1.out (by omega)⟩
    · go_wp2_with fail
      go_meet
      case rel => exact ⟨_, _, _, _, _, rfl, rfl, rfl, fm_gap S1.out (by omega)⟩
    · go_wp2_with fail
      go_meet
      case rel => exact ⟨_, _, _, _, _, rfl, rfl, rfl, fm_first S1.out (s' := ⟨10 - (1 + d), 10, oneAc fi1 []⟩) 0 (by decide) (fun _ _ _ => rfl) rfl (fun h => by have e : 10 - (1 + d) = 10 := h.2.2.1; omega)⟩
    · go_wp2_with fail
      go_meet
      case rel => exact ⟨_, _, _, _, _, rfl, rfl, rfl, fm_second S1.out (s' := ⟨20, 20 + (1 + d), oneAc fi2 []⟩) 1 (by decide) (fun _ _ _ => rfl) rfl (fun h => by have e : 20 + (1 + d) = 20 := h.2.2.2; omega)⟩
    · go_wp2_with fail
      go_meet
      case rel => exact ⟨_, _, _, _, _, rfl, rfl, rfl, fm_first S1.out (s' := ⟨10, 10, { oneAc fi1 [] with n := 1 + (1 + d) }⟩) 2 (by decide) (fun _ _ _ => rfl) rfl (fun h => by
        have h1 := h.1
        unfold fitB histB at h1
        simp only [Bool.and_eq_true] at h1
        have e : (1 : Int) = 1 + (1 + d) := (of_decide_eq_true h1.2.1).2.2
        omega)⟩
    · go_wp2_with fail
      refine sf24_any (s1 := fs1) (s2 := fs2) (B1 := B1) (B2 := B2) (k1 := k1) (c1 := c1') (k2 := k2) (c2 := c2) (g := g) (c := c1) (N := w4.heap.size) ⟨rfl, rfl, Nat.le_refl _, S1.out.x1, S1.out.x2⟩ (by kernel_rfl) ?_
      intro g80 g84 w5 hb5 h80 h84
      obtain ⟨n80, h80⟩ := h80
      have S5 := Lib.hid (S1.out.below hb5)
      have H84 := Lib.hid h84.2
      have HR : Hid (RowE w5 g80 (.slice (some ⟨g80, 0, none⟩) 1 1) [⟨fs2, B2, k2, c2⟩]) := rowE_one (r := ⟨fs2, B2, k2, c2⟩) h80 S5.out.x2.2.1 S5.out.x2.2.2 fun _ ad ea e => by
        obtain ⟨cs, h⟩ := S5.out.h2 ad ea
        rw [e] at h
        exact has_types h h80 (by decide)
      have HNE : Hid (0 < k1 → ∀ ad, B1 = some ad → (Value.slice (some ⟨g80, 0, none⟩) 1 1).ownBlock ≠ some ad.block) := fun _ ad ea e => by
        obtain ⟨cs, h⟩ := S5.out.h1 ad ea
        have e2 : g80 = ad.block := by simpa [Value.ownBlock] using e
        rw [← e2] at h
        exact has_types h h80 (by decide)
      have HYN : Hid ((Value.slice (some ⟨g80, 0, none⟩) 1 1).ownBlock ≠ some gy) := fun e => by
        have e2 : g80 = gy := by simpa [Value.ownBlock] using e
        rw [e2] at h80
        exact has_types h80 S5.out.y (by decide)
      have HN : Hid (w.heap.size ≤ g80 ∧ g80 ≤ w5.heap.size) := ⟨Nat.le_trans S1.out.keep.size n80, Nat.le_of_lt h80.lt⟩
      clear hb5 h80 h84 n80 mG cY mY g0 g2 g16
      simp only [putAll, Act.put, List.setIfInBounds_toArray, List.set_cons_succ, List.set_cons_zero, List.drop_succ_cons, List.drop_zero]
      refine app_rowE (v := .slice (some ⟨g80, 0, none⟩) 1 1) rfl _ _ rfl rfl HR.out rfl (r := ⟨fs1, B1, k1, c1'⟩) H84.out S5.out.x1.2.1 S5.out.x1.2.2 HNE.out (by simp) HN.out.2 ?_
      intro v' w' hown hgr
      obtain ⟨D2, e2, rfl, _⟩ := hown.form
      have HOW := Lib.hid hown
      have HGR := Lib.hid hgr
      clear hown hgr
      go_wp2_with fail
      go_meet
      case rel => exact ⟨_, _, _, _, _, rfl, rfl, rfl, [fs2, fs1], ⟨0, 15, 3, 1⟩, HOW.out.reads, by decide, HOW.out.cap.1, (HGR.out.far gy S5.out.y.lt HYN.out).trans S5.out.y, by decide +kernel, by decide +kernel, S5.out.keep.trans (HGR.out.below.mono HN.out.1)⟩
    · have HYN : Hid ((Value.slice (some ⟨g, 0, none⟩) 2 c1).ownBlock ≠ some gy) := fun e => S1.out.ne (by
        have e2 : g = gy := by simpa [Value.ownBlock] using e
        exact e2.symm)
      have HKL : Hid (w.heap.size ≤ w4.heap.size) := S1.out.keep.size
      have HL2 : Hid (rs.length = 2) := S1.out.own.cap.2
      clear mG cY mY g0 g2 g16
      go_wp2_with (refine app_rowE (v := .slice (some ⟨g, 0, none⟩) 2 c1) rfl _ _ rfl rfl (S1.out.own.below (HAL.out _ _)) rfl (r := ⟨zeroSe, none, 0, 0⟩) (Has.made _ _ _) Ints.nil ⟨Nat.le_refl _, Nat.zero_le _⟩ (fun h => absurd h (by decide)) (by rw [HL2.out]; decide) (by have := HKL.out; simp; omega) ?_; intro v' w' hown hgr; obtain ⟨D2, e2, rfl, _⟩ := hown.form; have HOW := Lib.hid hown; have HGR := Lib.hid hgr; clear hown hgr)
      go_meet
      case rel =>
        have hcap := HOW.out.cap.1
        have hlen : (rs ++ [(⟨zeroSe, none, 0, 0⟩ : Rs)]).length = rs.length + 1 := by simp
        rw [hlen] at hcap
        have hmap : (rs ++ [(⟨zeroSe, none, 0, 0⟩ : Rs)]).map (·.s) = [fs1, fs2, zeroSe] := by rw [List.map_append, S1.out.rs2]; rfl
        have hrd := HOW.out.reads
        rw [hmap, hlen] at hrd
        have hno : sesB 3 [] [fs1, fs2, zeroSe] = false := no_ses (s := zeroSe) (by simp) (fun h => h.2.1 rfl)
        exact ⟨_, _, _, _, _, rfl, rfl, rfl, [fs1, fs2, zeroSe], ⟨0, 15, 3, 1⟩, hrd, by rw [HL2.out]; decide, hcap, (HGR.out.far gy (by have := S1.out.y.lt; simp; omega) HYN.out).trans (S1.out.y.alloc _), hno, by rw [hno]; rfl, (S1.out.keep.trans ((HAL.out _ _).mono S1.out.keep.size)).trans HGR.out.below⟩
    · go_wp2_with fail
      go_meet
      case rel => exact ⟨_, _, _, _, _, rfl, rfl, rfl, fm_item S1.out (y := ⟨1, 15, 3, 1⟩) 0 rfl (fun h => absurd h.2 (by decide))⟩
    · go_wp2_with fail
      go_meet
      case rel => exact ⟨_, _, _, _, _, rfl, rfl, rfl, fm_item S1.out (y := ⟨0, 1099511627776 + (1 + d), 3, 1⟩) 1 rfl (fun h => by have := itemB_iff.1 h.1; simp only at this; omega)⟩
    · go_wp2_with fail
      go_meet
      case rel => exact ⟨_, _, _, _, _, rfl, rfl, rfl, fm_item S1.out (y := ⟨0, 15, 1 - (1 + d), 1⟩) 2 rfl (fun h => by have := itemB_iff.1 h.1; simp only at this; omega)⟩
  case rest =>
    clear S1
    obtain ⟨A, n, c, gp, raw, rfl, rfl, rfl, hR⟩ := hcut
    obtain ⟨ss, y, hs, hn3, hnc, hy, hm, hb, hk0⟩ := hR.out
    have HS := Lib.hid hs
    have HY := Lib.hid hy
    have HM := Lib.hid hm
    have HB := Lib.hid hb
    have HW := Lib.hid hk0
    clear hR hs hy hm hb hk0
    have HIT : Hid (wc.rangeAt gy 0 (itemL y)) := range_item HY.out
    go_wp2_with (refine load_item rfl _ rfl gy 0 rfl HIT.out ?_)
    refine (C3.out _ _ _ _ _ _ _ y (HS.out.below (HAL.out _ _)) hn3 (Has.made _ _ _) HB.out).mono ?_
    rintro e w6 ⟨rfl, hb6⟩
    have hbb := (HAL.out _ _).trans (hb6.mono (by simp))
    have HS6 := Lib.hid (HS.out.below hbb)
    have HW6 := Lib.hid (HW.out.trans (hbb.mono HW.out.size))
    clear hb6 hbb HS HW HY HIT
    go_wp2_with fail
    refine (C2.out _ _ _ _ _ _ HS6.out hn3).mono ?_
    rintro e w7 ⟨rfl, hb7⟩
    rw [HM.out]
    have HW7 := Lib.hid (HW6.out.trans (hb7.mono HW6.out.size))
    clear hb7 HS6 HW6
    cases raw
    · go_wp2_with (go_at_call 17; refine (num_any _ _).mono ?_; rintro e w' ⟨rfl, rfl⟩)
      go_ret
      exact ⟨rfl, HW7.out⟩
    · go_wp2_with (go_at_call 17; refine (num_any _ _).mono ?_; rintro e w' ⟨rfl, rfl⟩)
      go_ret
      exact ⟨rfl, HW7.out⟩

end Go.Proofs.Ytgdeaddfkcokpaa

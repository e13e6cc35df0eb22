/-
  Plain facts for the sessions' laws: what stands near; parts that lie apart; times that rise. No program here.
  What the laws of sessions lean on: Add of items that may be; items and sessions in memory; the law's item.
  Walk: the session laws' first look.
-/
import Derived.Test.YtgdeaddfkcokpaaG7g
import Derived.Test.YtgdeaddfkcokpaaG6e
import Derived.Test.YtgdeaddfkcokpaaSame
namespace Go.Proofs.Ytgdeaddfkcokpaa
open Go.RowKit

/-- Behind a time within a block stands an item nearer than the gap. -/
theorem near_next {g c : Int} {B : List It} (h : Conn g B) (h1 : ∃ y, y ∈ B ∧ y.t ≤ c) (h2 : ∃ z, z ∈ B ∧ c < z.t) : ∃ z, z ∈ B ∧ c < z.t ∧ z.t - c < g := by
  obtain ⟨y, z, _, m2, e1, e2, e3⟩ := h c h1 h2
  exact ⟨z, m2, e2, by omega⟩
theorem blk_next {g c : Int} {bs : List Int} {B : List It} (h : Conn g B) (hne : B ≠ []) (h1 : (blkA bs B).f.t ≤ c) (h2 : c < (blkA bs B).l.t) : ∃ z, z ∈ B ∧ c < z.t ∧ z.t - c < g ∧ z.t ≤ (blkA bs B).l.t := by
  obtain ⟨z, m, e1, e2⟩ := near_next h ⟨_, (blk_f (bs := bs) hne).1, h1⟩ ⟨_, (blk_l (bs := bs) hne).1, h2⟩
  exact ⟨z, m, e1, e2, (blk_l (bs := bs) hne).2 z m⟩
/-- The sessions of items, from none on. -/
theorem all_nil {g : Int} (hg : 0 < g) {bs : List Int} (xs : List It) : ∃ Bs, allE g bs xs [] = Bs.map (seOf bs) ∧ Runs g Bs ∧ Bs.flatten.Perm xs :=
  ⟨allR g xs [], all_blocks hg xs [] trivial, runs_all hg xs [] trivial, by simpa using flat_all (g := g) xs []⟩
/-- In any row. -/
theorem all_rows {g : Int} (hg : 0 < g) {bs : List Int} {xs ys : List It} (p : xs.Perm ys) (ha : ∀ x, x ∈ xs → ∀ y, y ∈ xs → x = y ∨ Apart x y) : allE g bs xs [] = allE g bs ys [] := by
  obtain ⟨As, e1, r1, p1⟩ := all_nil hg (bs := bs) xs
  obtain ⟨Bs, e2, r2, p2⟩ := all_nil hg (bs := bs) ys
  rw [e1, e2]
  exact all_perm hg r1 r2 (p1.trans (p.trans p2.symm)) fun x hx y hy => ha x (p1.mem_iff.1 hx) y (p1.mem_iff.1 hy)
/-- How many items there are, session by session. -/
theorem flat_count (bs : List Int) (Bs : List (List It)) : isum ((Bs.map (seOf bs)).map (·.a.n)) = Bs.flatten.length := by
  induction Bs with
  | nil => rfl
  | cons B Bs ih =>
    have e : (seOf bs B).a.n = B.length := blk_n bs B
    simp only [List.map_cons, isum, List.flatten_cons, List.length_append]
    rw [ih, e]
    omega
/-- Items that lie apart from others. -/
theorem all_apart {g : Int} (hg : 0 < g) {bs : List Int} {xs ys zs : List It} (p : zs.Perm (xs ++ ys)) (hd : ∀ x, x ∈ xs → ∀ y, y ∈ ys → x.t + g ≤ y.t) (ha : ∀ x, x ∈ xs ++ ys → ∀ y, y ∈ xs ++ ys → x = y ∨ Apart x y) :
    allE g bs zs [] = allE g bs xs [] ++ allE g bs ys [] ∧ allE g bs ys (allE g bs xs []) = allE g bs xs [] ++ allE g bs ys [] := by
  obtain ⟨As, e1, r1, p1⟩ := all_nil hg (bs := bs) xs
  obtain ⟨Bs, e2, r2, p2⟩ := all_nil hg (bs := bs) ys
  obtain ⟨Cs, e3, r3, p3⟩ := all_nil hg (bs := bs) zs
  have rab : Runs g (As ++ Bs) := runs_append r1 r2 fun x hx y hy => hd x (p1.mem_iff.1 hx) y (p2.mem_iff.1 hy)
  have pab : (As ++ Bs).flatten.Perm (xs ++ ys) := by rw [List.flatten_append]; exact p1.append p2
  have hab : ∀ x, x ∈ (As ++ Bs).flatten → ∀ y, y ∈ (As ++ Bs).flatten → x = y ∨ Apart x y := fun x hx y hy => ha x (pab.mem_iff.1 hx) y (pab.mem_iff.1 hy)
  have e4 : allE g bs ys (As.map (seOf bs)) = (allR g ys As).map (seOf bs) := all_blocks hg ys As r1
  have p4 := flat_all (g := g) ys As
  rw [e1, e2, e3, e4, ← List.map_append]
  exact ⟨(all_perm hg rab r3 (pab.trans (p.symm.trans p3.symm)) hab).symm, (all_perm hg rab (runs_all hg ys As r1) (pab.trans ((p1.append_right ys).symm.trans p4.symm)) hab).symm⟩
/-- An item behind all others. -/
theorem addR_snoc {g : Int} (hg : 0 < g) {x : It} (Bs : List (List It)) : ∀ B, Runs g (Bs ++ [B]) → (∀ y, y ∈ B → y.t ≤ x.t) →
    addR g x (Bs ++ [B]) = if outR g x B then Bs ++ [B] ++ [[x]] else Bs ++ [B ++ [x]] := by
  induction Bs with
  | nil =>
    intro B hR hx
    cases h : outR g x B with
    | true => rw [List.nil_append, addR_out h]; rfl
    | false =>
      have h2 : behR g x B = false := by
        cases h2 : behR g x B with
        | false => rfl
        | true =>
          obtain ⟨y, hy⟩ := List.exists_mem_of_ne_nil B hR.1
          have h3 := behR_iff.1 h2 y hy
          have h4 := hx y hy
          omega
      simp [addR, h, h2]
  | cons A As ih =>
    intro B hR hx
    have hR : Runs g (A :: (As ++ [B])) := hR
    have ho : outR g x A = true := outR_iff.2 fun y hy => by
      obtain ⟨z, hz⟩ := List.exists_mem_of_ne_nil B (runs_ne hR (show B ∈ A :: (As ++ [B]) by simp))
      have h1 := hR.2.2.1 y hy z (mem_flat (show B ∈ As ++ [B] by simp) hz)
      have h2 := hx z hz
      omega
    rw [List.cons_append, addR_out ho, ih B hR.2.2.2 hx]
    cases outR g x B <;> rfl

theorem allR_snoc (g : Int) (xs : List It) (x : It) (Bs : List (List It)) : allR g (xs ++ [x]) Bs = addR g x (allR g xs Bs) := by simp [allR]
/-- Times that rise: what has come so far, t the last time, fs where the sessions begin. -/
structure Chain (g : Int) (xs : List It) (t : Int) (fs : List Int) : Prop where
  blocks : ∃ Bs B, allR g xs [] = Bs ++ [B] ∧ Runs g (Bs ++ [B]) ∧ (∀ y, y ∈ B → y.t ≤ t) ∧ (∃ y, y ∈ B ∧ y.t = t) ∧ (Bs ++ [B]).map (fun C => (blkA [] C).f.t) = fs
theorem chain_one {g : Int} (x : It) : Chain g [x] x.t [x.t] :=
  ⟨[], [x], by simp [allR, addR], ⟨by simp, conn_one g x, by simp, trivial⟩, fun y hy => by simp only [List.mem_singleton] at hy; rw [hy]; exact Int.le_refl _, ⟨x, by simp, rfl⟩, by simp [blk_one, oneAc]⟩
theorem chain_new {g : Int} (hg : 0 < g) {xs : List It} {t : Int} {fs : List Int} (h : Chain g xs t fs) {x : It} (hx : t + g ≤ x.t) : Chain g (xs ++ [x]) x.t (fs ++ [x.t]) := by
  obtain ⟨Bs, B, e, r, m1, _, m3⟩ := h.blocks
  have ho : outR g x B = true := outR_iff.2 fun y hy => by have := m1 y hy; omega
  have ea : allR g (xs ++ [x]) [] = (Bs ++ [B]) ++ [[x]] := by rw [allR_snoc, e, addR_snoc hg Bs B r fun y hy => by have := m1 y hy; omega, ho, if_pos rfl]
  refine ⟨Bs ++ [B], [x], ea, ?_, fun y hy => by simp only [List.mem_singleton] at hy; rw [hy]; exact Int.le_refl _, ⟨x, by simp, rfl⟩, ?_⟩
  · have := runs_add hg x (Bs ++ [B]) r
    rwa [← e, ← allR_snoc, ea] at this
  · rw [List.map_append, m3]
    simp [blk_one, oneAc]
theorem chain_same {g : Int} (hg : 0 < g) {xs : List It} {t : Int} {fs : List Int} (h : Chain g xs t fs) {x : It} (h1 : t ≤ x.t) (h2 : x.t < t + g) : Chain g (xs ++ [x]) x.t fs := by
  obtain ⟨Bs, B, e, r, m1, ⟨y0, hy0, e0⟩, m3⟩ := h.blocks
  have ho : outR g x B = false := by
    cases h3 : outR g x B with
    | false => rfl
    | true => have := outR_iff.1 h3 y0 hy0; omega
  have ea : allR g (xs ++ [x]) [] = Bs ++ [B ++ [x]] := by rw [allR_snoc, e, addR_snoc hg Bs B r fun y hy => by have := m1 y hy; omega, ho]; rfl
  have hne : B ≠ [] := List.ne_nil_of_mem hy0
  have hf : (blkA [] (B ++ [x])).f.t = (blkA [] B).f.t := by
    obtain ⟨f1, f2⟩ := blk_f (bs := []) (B := B ++ [x]) (by simp)
    obtain ⟨g1, g2⟩ := blk_f (bs := []) hne
    have a1 := f2 _ (List.mem_append_left _ g1)
    rcases List.mem_append.1 f1 with f1 | f1
    · have a2 := g2 _ f1
      omega
    · simp only [List.mem_singleton] at f1
      have a2 := g2 y0 hy0
      rw [f1] at a1 ⊢
      have a3 := m1 _ g1
      omega
  refine ⟨Bs, B ++ [x], ea, ?_, fun y hy => ?_, ⟨x, by simp, rfl⟩, ?_⟩
  · have := runs_add hg x (Bs ++ [B]) r
    rwa [← e, ← allR_snoc, ea] at this
  · rcases List.mem_append.1 hy with hy | hy
    · have := m1 y hy; omega
    · simp only [List.mem_singleton] at hy; rw [hy]; exact Int.le_refl _
  · rw [← m3, List.map_append, List.map_append, List.map_cons, List.map_cons, List.map_nil, hf]
/-- What the sessions of such times are. -/
theorem chain_end {g : Int} (hg : 0 < g) {xs : List It} {t : Int} {fs : List Int} (h : Chain g xs t fs) :
    (allE g [] xs []).length = fs.length ∧ 0 < fs.length ∧ (∀ i, i < fs.length → (nthE (allE g [] xs []) i).f = nth fs i) ∧ (nthE (allE g [] xs []) (fs.length - 1)).l = t ∧ isum ((allE g [] xs []).map (·.a.n)) = xs.length := by
  obtain ⟨Bs, B, e, r, m1, ⟨y0, hy0, e0⟩, m3⟩ := h.blocks
  have ea : allE g [] xs [] = (Bs ++ [B]).map (seOf []) := by
    have := all_blocks hg (bs := []) xs [] trivial
    rw [e] at this
    exact this
  have hl : fs.length = (Bs ++ [B]).length := by rw [← m3, List.length_map]
  have hp := flat_all (g := g) xs []
  rw [ea]
  refine ⟨by rw [List.length_map, hl], by rw [hl]; simp, fun i hi => ?_, ?_, ?_⟩
  · rw [hl] at hi
    rw [nthE_map hi, ← m3]
    unfold nth
    rw [List.getD_eq_getElem?_getD, List.getD_eq_getElem?_getD, List.getElem?_map, List.getElem?_eq_getElem hi]
    rfl
  · rw [hl, nthE_map (by simp)]
    have e1 : (Bs ++ [B]).getD ((Bs ++ [B]).length - 1) [] = B := by simp
    rw [e1]
    have hne : B ≠ [] := List.ne_nil_of_mem hy0
    obtain ⟨l1, l2⟩ := blk_l (bs := []) hne
    have a1 := m1 _ l1
    have a2 := l2 y0 hy0
    show (blkA [] B).l.t = t
    omega
  · rw [flat_count]
    rw [e] at hp
    have := hp.length_eq
    simp only [List.flatten_nil, List.nil_append] at this
    rw [this]

end Go.Proofs.Ytgdeaddfkcokpaa

namespace Go.Proofs.Ytgdeaddfkcokpaa
open Go.RowKit

/-! Plain: sessions of items alone, without bounds. -/
abbrev SS (g : Int) (xs : List It) : List Se := allE g [] xs []
def ItsOk (σ : Int) (xs : List It) : Prop := ∀ x, x ∈ xs → itemB x = true ∧ x.s = σ
theorem bounds_nil : boundsB [] = true := by decide
theorem ss_append (g : Int) (us xs : List It) : allE g [] xs (SS g us) = SS g (us ++ xs) := by simp [SS, allE]
theorem flat_le : ∀ (l : List (List It)) (B : List It), B ∈ l → B.length ≤ l.flatten.length := fun l => by
  induction l with
  | nil => intro B hB; cases hB
  | cons C l ih =>
    intro B hB
    rw [List.flatten_cons, List.length_append]
    rcases List.mem_cons.1 hB with rfl | hB
    · omega
    · have := ih B hB; omega
theorem ss_small {g : Int} (hg : 0 < g) {xs : List It} (hl : xs.length ≤ 8192) : ¬ bigE (SS g xs) := fun ⟨s, hs, hn⟩ => by
  obtain ⟨Bs, e1, r1, p1⟩ := all_nil hg (bs := []) xs
  rw [SS, e1] at hs
  obtain ⟨B, hB, rfl⟩ := List.mem_map.1 hs
  have hn : 8192 < (blkA [] B).n := hn
  rw [blk_n] at hn
  have := flat_le Bs B hB
  have := p1.length_eq
  omega
theorem ss_may {g σ : Int} (hg : 1 ≤ g ∧ g ≤ 1073741824) {xs : List It} (hx : ItsOk σ xs) (hl : xs.length ≤ 8192) : sesB g [] (SS g xs) = true := by
  obtain ⟨Bs, e1, r1, p1⟩ := all_nil (show 0 < g by omega) (bs := []) xs
  rw [SS, e1]
  exact runs_ses r1 (wi_mk hg) bounds_nil (fun x hm => hx x (p1.mem_iff.1 hm)) (by rw [p1.length_eq]; exact hl)
theorem ss_its {g σ : Int} (hg : 0 < g) {us xs : List It} (hu : ItsOk σ us) (hx : ItsOk σ xs) : itsB (SS g us) xs = true := by
  have at_ : ∀ i, i < xs.length → nthI xs i ∈ xs := fun i hi => by
    have : nthI xs i = xs[i] := by simp [nthI, hi]
    rw [this]; exact List.getElem_mem hi
  refine decide_eq_true fun i hi => ⟨(hx _ (at_ i hi)).1, ?_⟩
  rw [(hx _ (at_ i hi)).2]
  unfold serS
  by_cases h0 : (SS g us).length = 0
  · rw [if_pos h0, (hx _ (at_ 0 (by omega))).2]
  · rw [if_neg h0]
    obtain ⟨Bs, e1, r1, p1⟩ := all_nil hg (bs := []) us
    have e2 : SS g us = Bs.map (seOf []) := e1
    rw [e2] at h0 ⊢
    have hB : 0 < Bs.length := by rw [List.length_map] at h0; omega
    rw [nthE_map hB]
    have hm : Bs.getD 0 [] ∈ Bs := by
      have : Bs.getD 0 [] = Bs[0] := by simp [hB]
      rw [this]; exact List.getElem_mem hB
    have hne := runs_ne r1 hm
    have := (hu _ (p1.mem_iff.1 (mem_flat hm (blk_f (bs := []) hne).1))).2
    exact this.symm
theorem ItsOk.append {σ : Int} {us xs : List It} (hu : ItsOk σ us) (hx : ItsOk σ xs) : ItsOk σ (us ++ xs) := fun x h => by
  rcases List.mem_append.1 h with h | h
  · exact hu x h
  · exact hx x h

/-- Items more, none wrong: the sessions of all items. -/
theorem add_items (g σ : Int) (hg : 1 ≤ g ∧ g ≤ 1073741824) (us xs : List It) (hu : ItsOk σ us) (hx : ItsOk σ xs) (hl : (us ++ xs).length ≤ 8192) (A : Option Addr) (n c : Nat) (X : Option Addr) (k cx : Nat) (w : World) (hs : Sess w A n (SS g us)) (hnc : n ≤ c)
    (hn : n ≤ 8192) (hi : Items w X k xs) (hX : X = none → cx = 0) (hkc : k ≤ cx) :
    Calls Try.prog 26 #[.slice A n c, .int .i64 g, .slice none 0 0, .slice X k cx] w (GoodS (SS g (us ++ xs)) w) := by
  rw [List.length_append] at hl
  have hk := hi.1
  have h := sesadd_ok A n c (SS g us) g none 0 0 [] X k cx xs w hs hnc Ints.nil (Nat.zero_le _) hi hX hkc (by omega) (ss_may hg hu (by omega)) (ss_its (by omega) hu hx)
  rw [ss_append] at h
  refine h.mono fun e w' h => ?_
  rcases h with ⟨hb, _⟩ | ⟨_, h⟩
  · exact absurd hb (ss_small (by omega) (by rw [List.length_append]; exact hl))
  · exact h
theorem ss_len {g : Int} (hg : 0 < g) (xs : List It) : (SS g xs).length ≤ xs.length := by
  obtain ⟨Bs, e1, r1, p1⟩ := all_nil hg (bs := []) xs
  rw [SS, e1, List.length_map, ← p1.length_eq]
  have : ∀ (l : List (List It)), (∀ B, B ∈ l → B ≠ []) → l.length ≤ l.flatten.length := fun l => by
    induction l with
    | nil => intro _; simp
    | cons C l ih =>
      intro h
      rw [List.flatten_cons, List.length_append, List.length_cons]
      have := ih fun B hB => h B (by simp [hB])
      have : C.length ≠ 0 := fun e => h C (by simp) (List.eq_nil_of_length_eq_zero e)
      omega
  exact this Bs fun B hB => runs_ne r1 hB

/-! In memory. -/
theorem items_has {w : World} {g : Nat} {xs : List It} {cs : Array Value} (h : Has w g 23 cs) (e : cs = (xs.flatMap itemL).toArray) : Items w (some ⟨g, 0, none⟩) xs.length xs :=
  ⟨rfl, fun _ => ⟨g, 0, rfl, fun i hi j v hv => by
    rw [show 0 + i * 4 + j = i * 4 + j by omega, h.cell, e]
    simpa using flat_at xs i hi j v hv⟩⟩
/-- A session of a row, by its place. -/
theorem Sess.cells {w : World} {A : Option Addr} {n : Nat} {ss : List Se} (h : Sess w A n ss) (hn : 0 < n) : ∃ b o : Nat, A = some ⟨b, o, none⟩ ∧ ∀ i, i < n → w.cell? ⟨b, o + i * 15, none⟩ = some (.int .i64 (nthE ss i).f) ∧ w.cell? ⟨b, o + i * 15 + 1, none⟩ = some (.int .i64 (nthE ss i).l) ∧ w.cell? ⟨b, o + i * 15 + 2, none⟩ = some (.int .i64 (nthE ss i).a.n) := by
  obtain ⟨b, o, e, hi⟩ := h.2 hn
  refine ⟨b, o, e, fun i hlt => ?_⟩
  obtain ⟨B, k, c, hx⟩ := hi i hlt
  exact ⟨hx.cell, hx.at_ 1 (sesC_1 _ _ _ _), hx.at_ 2 (sesC_2 _ _ _ _)⟩
theorem RowE.cap {w : World} {base : Nat} {A : Option Addr} {n c : Nat} {rs : List Rs} (h : RowE w base (.slice A n c) rs) : n ≤ c ∧ rs.length = n := by
  rcases h.row.2 with ⟨e, h0⟩ | ⟨g', cap, cur, e, _, _, hc, _⟩
  · injection e with _ e2 e3; omega
  · injection e with _ e2 e3; omega
theorem OwnE.sess {w : World} {base : Nat} {A : Option Addr} {n c : Nat} {rs : List Rs} {T : List Se} (h : OwnE w base (.slice A n c) rs) (e : rs.map (·.s) = T) : Sess w A n T := by rw [← e]; exact h.row.reads

end Go.Proofs.Ytgdeaddfkcokpaa

namespace Go.Proofs.Ytgdeaddfkcokpaa
open Go.RowKit

set_option maxRecDepth 100000 in
set_option maxHeartbeats 400000 in
theorem sitem_any (s t q v : Int) (w : World) :
    Calls Try.prog 34 #[.int .i64 s, .int .i64 t, .int .i64 q, .int .i64 v] w fun e w' => e = .returned (.agg #[.int .i64 s, .int .i64 t, .int .i64 q, .int .i64 v]) ∧ Below w.heap.size w w' := by
  go_enter Try.func34, Try.ntmps34
  go_wp2
  exact bodyPost_ret (v := .agg #[.int .i64 s, .int .i64 t, .int .i64 q, .int .i64 v]) (by simp [results, Try.results34, go_sem]) rfl ⟨rfl, (Below.refl _ _).alloc (Nat.le_refl _) _⟩

/-- What Add hands out, of a length that is known. -/
theorem good_lit {T : List Se} {n : Nat} (h : T.length = n) {w : World} {e : Ending} {w' : World} (hg : GoodS T w e w') :
    ∃ A c rs, e = .returned (.tuple #[.slice A n c, .int .i64 0]) ∧ OwnE w' w.heap.size (.slice A n c) rs ∧ rs.map (·.s) = T ∧ n ≤ c ∧ Below w.heap.size w w' := by
  subst h
  obtain ⟨A, c, rs, h1, h2, h3, h4⟩ := hg
  exact ⟨A, c, rs, h1, h2, h3, h2.row.cap.1, h4⟩

abbrev aw1 : List It := [⟨0, 10, 1, 5⟩, ⟨0, 13, 2, 6⟩, ⟨0, 4, 3, 7⟩]
abbrev aw2 : List It := [⟨0, 12, 4, 1⟩, ⟨0, 11, 5, 1⟩]
theorem aw_ok : ItsOk 0 aw1 := fun x hx => by
  simp only [List.mem_cons, List.not_mem_nil, or_false] at hx
  rcases hx with rfl | rfl | rfl <;> decide
theorem aw_ok2 : ItsOk 0 aw2 := fun x hx => by
  simp only [List.mem_cons, List.not_mem_nil, or_false] at hx
  rcases hx with rfl | rfl <;> decide
theorem aw_t1 : (SS 3 aw1).length = 3 ∧ (nthE (SS 3 aw1) 0).f = 4 ∧ (nthE (SS 3 aw1) 2).l = 13 := by decide +kernel
theorem aw_t2 : (SS 3 (aw1 ++ aw2)).length = 2 ∧ (nthE (SS 3 (aw1 ++ aw2)) 1).f = 10 ∧ (nthE (SS 3 (aw1 ++ aw2)) 1).l = 13 ∧ (nthE (SS 3 (aw1 ++ aw2)) 1).a.n = 4 := by decide +kernel
theorem aw_3 : (sesB 3 [] (SS 3 aw1) && itsB (SS 3 aw1) [⟨1, 12, 4, 1⟩]) = false := by decide +kernel
theorem aw_4 : (sesB 0 [] [] && itsB [] []) = false := by decide +kernel
theorem aw_5 : sesB 4 [] (SS 3 aw1) = false := by decide +kernel

set_option maxRecDepth 100000 in
set_option maxHeartbeats 2000000 in
theorem sawake_any (w : World) :
    Calls Try.prog 33 #[] w fun e w' => e = .returned (.bool true) ∧ Below w.heap.size w w' := by
  have HI : Hid (∀ (s t q v : Int) (W : World), Calls Try.prog 34 #[.int .i64 s, .int .i64 t, .int .i64 q, .int .i64 v] W fun e w' => e = .returned (.agg #[.int .i64 s, .int .i64 t, .int .i64 q, .int .i64 v]) ∧ Below W.heap.size W w') := sitem_any
  have HAL : Hid (∀ (W : World) o, Below W.heap.size W (W.alloc o)) := fun W o => (Below.refl _ _).alloc (Nat.le_refl _) o
  obtain ⟨T1, hT1⟩ : ∃ T, SS 3 aw1 = T := ⟨_, rfl⟩
  obtain ⟨T2, hT2⟩ : ∃ T, SS 3 (aw1 ++ aw2) = T := ⟨_, rfl⟩
  obtain ⟨a1, a2, a3⟩ := aw_t1
  obtain ⟨b1, b2, b3, b4⟩ := aw_t2
  rw [hT1] at a1 a2 a3
  rw [hT2] at b1 b2 b3 b4
  have E1 := Lib.hid a2; have E2 := Lib.hid a3
  have F1 := Lib.hid b2; have F2 := Lib.hid b3; have F3 := Lib.hid b4
  have C1 : Hid (∀ (W : World) (g : Nat), Has W g 23 (aw1.flatMap itemL).toArray → Calls Try.prog 26 #[.slice none 0 0, .int .i64 3, .slice none 0 0, .slice (some ⟨g, 0, none⟩) 3 3] W fun e w' => ∃ A c, e = .returned (.tuple #[.slice A 3 c, .int .i64 0]) ∧ Sess w' A 3 T1 ∧ 3 ≤ c ∧ Below W.heap.size W w') := fun W g hg =>
    (add_items 3 0 (by decide) [] aw1 (fun x hx => by cases hx) aw_ok (by decide) none 0 0 (some ⟨g, 0, none⟩) 3 3 W (Sess.nil _ _) (Nat.le_refl _) (by decide) (items_has hg rfl) (fun e => by cases e) (Nat.le_refl _)).mono fun e w' h => by
      rw [List.nil_append, hT1] at h
      obtain ⟨A, c, rs, h1, h2, h3, h4, h5⟩ := good_lit a1 h
      exact ⟨A, c, h1, h2.sess h3, h4, h5⟩
  have C2 : Hid (∀ (W : World) (A : Option Addr) (c g : Nat), Sess W A 3 T1 → 3 ≤ c → Has W g 23 (aw2.flatMap itemL).toArray → Calls Try.prog 26 #[.slice A 3 c, .int .i64 3, .slice none 0 0, .slice (some ⟨g, 0, none⟩) 2 2] W fun e w' => ∃ A c, e = .returned (.tuple #[.slice A 2 c, .int .i64 0]) ∧ Sess w' A 2 T2 ∧ 2 ≤ c ∧ Below W.heap.size W w') := fun W A c g hs hc hg =>
    (add_items 3 0 (by decide) aw1 aw2 aw_ok aw_ok2 (by decide) A 3 c (some ⟨g, 0, none⟩) 2 2 W (by rw [hT1]; exact hs) hc (by decide) (items_has hg rfl) (fun e => by cases e) (Nat.le_refl _)).mono fun e w' h => by
      rw [hT2] at h
      obtain ⟨A, c, rs, h1, h2, h3, h4, h5⟩ := good_lit b1 h
      exact ⟨A, c, h1, h2.sess h3, h4, h5⟩
  have C3 : Hid (∀ (W : World) (A : Option Addr) (c g : Nat), Sess W A 3 T1 → Has W g 23 (([⟨1, 12, 4, 1⟩] : List It).flatMap itemL).toArray → Calls Try.prog 26 #[.slice A 3 c, .int .i64 3, .slice none 0 0, .slice (some ⟨g, 0, none⟩) 1 1] W (BadS 600 W)) := fun W A c g hs hg =>
    sesadd_bad A 3 c T1 3 none 0 0 [] (some ⟨g, 0, none⟩) 1 1 [⟨1, 12, 4, 1⟩] W hs Ints.nil (Nat.zero_le _) (items_has hg rfl) (by decide) (by rw [← hT1]; exact aw_3)
  have C4 : Hid (∀ (W : World), Calls Try.prog 26 #[.slice none 0 0, .int .i64 0, .slice none 0 0, .slice none 0 0] W (BadS 600 W)) := fun W =>
    sesadd_bad none 0 0 [] 0 none 0 0 [] none 0 0 [] W (Sess.nil _ _) Ints.nil (Nat.zero_le _) (Items.nil _ _) (by decide) aw_4
  have C5 : Hid (∀ (W : World) (A : Option Addr) (c : Nat), Sess W A 3 T1 → Calls Try.prog 30 #[.slice A 3 c, .int .i64 3, .slice none 0 0] W fun e w' => e = .returned (.bool true) ∧ Below W.heap.size W w') := fun W A c hs =>
    (sesmay_any A 3 c T1 3 none 0 0 [] W hs (by decide) Ints.nil (Nat.zero_le _)).mono fun e w' h => by
      rw [← hT1, ss_may (by decide) aw_ok (by decide)] at h; exact h
  have C6 : Hid (∀ (W : World) (A : Option Addr) (c : Nat), Sess W A 3 T1 → Calls Try.prog 30 #[.slice A 3 c, .int .i64 4, .slice none 0 0] W fun e w' => e = .returned (.bool false) ∧ Below W.heap.size W w') := fun W A c hs =>
    (sesmay_any A 3 c T1 4 none 0 0 [] W hs (by decide) Ints.nil (Nat.zero_le _)).mono fun e w' h => by
      rw [← hT1, aw_5] at h; exact h
  clear hT1 hT2 a1 a2 a3 b1 b2 b3 b4
  go_enter Try.func33, Try.ntmps33
  have HB0 : Hid (Below w.heap.size w w) := Below.refl _ _
  go_wp2_with fail
  refine (HI.out _ _ _ _ _).mono ?_
  rintro e v1 ⟨rfl, hb⟩
  have HB1 := Lib.hid (HB0.out.trans hb)
  clear hb
  go_wp2_with fail
  refine (HI.out _ _ _ _ _).mono ?_
  rintro e v2 ⟨rfl, hb⟩
  have HB2 := Lib.hid (HB1.out.trans (hb.mono HB1.out.size))
  clear hb
  go_wp2_with fail
  refine (HI.out _ _ _ _ _).mono ?_
  rintro e v3 ⟨rfl, hb⟩
  have HB3 := Lib.hid (HB2.out.trans (hb.mono HB2.out.size))
  clear hb HB0 HB1 HB2
  go_wp2_with fail
  refine (C1.out _ _ (Has.made _ _ _)).mono ?_
  rintro e w1 ⟨A1, c1, rfl, o1, n1, b1⟩
  have HS1 := Lib.hid o1
  have HW1 := Lib.hid (HB3.out.trans (((HAL.out _ _).trans (b1.mono (by simp))).mono HB3.out.size))
  clear o1 b1 HB3
  go_wp2_with fail
  refine (HI.out _ _ _ _ _).mono ?_
  rintro e v1 ⟨rfl, hb⟩
  have HS2 := Lib.hid (HS1.out.below hb)
  have HW2 := Lib.hid (HW1.out.trans (hb.mono HW1.out.size))
  clear hb HS1 HW1
  go_wp2_with fail
  refine (HI.out _ _ _ _ _).mono ?_
  rintro e v2 ⟨rfl, hb⟩
  have HS3 := Lib.hid (HS2.out.below hb)
  have HW3 := Lib.hid (HW2.out.trans (hb.mono HW2.out.size))
  clear hb HS2 HW2
  go_wp2_with fail
  refine (C2.out _ _ _ _ (HS3.out.below (HAL.out _ _)) n1 (Has.made _ _ _)).mono ?_
  rintro e w2 ⟨A2, c2, rfl, o2, n2, b2⟩
  have hb := (HAL.out _ _).trans (b2.mono (by simp))
  have HS4 := Lib.hid (HS3.out.below hb)
  have HT4 := Lib.hid o2
  have HW4 := Lib.hid (HW3.out.trans (hb.mono HW3.out.size))
  clear hb b2 o2 HS3 HW3
  go_wp2_with fail
  refine (HI.out _ _ _ _ _).mono ?_
  rintro e v2 ⟨rfl, hb⟩
  have HS5 := Lib.hid (HS4.out.below hb)
  have HT5 := Lib.hid (HT4.out.below hb)
  have HW5 := Lib.hid (HW4.out.trans (hb.mono HW4.out.size))
  clear hb HS4 HT4 HW4
  go_wp2_with fail
  refine (C3.out _ _ _ _ (HS5.out.below (HAL.out _ _)) (Has.made _ _ _)).mono ?_
  rintro e w3 ⟨rfl, b3⟩
  have hb := (HAL.out _ _).trans (b3.mono (by simp))
  have HS6 := Lib.hid (HS5.out.below hb)
  have HT6 := Lib.hid (HT5.out.below hb)
  have HW6 := Lib.hid (HW5.out.trans (hb.mono HW5.out.size))
  clear hb b3 HS5 HT5 HW5
  go_wp2_with fail
  refine (C4.out _).mono ?_
  rintro e w4 ⟨rfl, hb⟩
  have HS7 := Lib.hid (HS6.out.below hb)
  have HT7 := Lib.hid (HT6.out.below hb)
  have HW7 := Lib.hid (HW6.out.trans (hb.mono HW6.out.size))
  clear hb HS6 HT6 HW6
  obtain ⟨p1, q1, rfl, hc1⟩ := HS7.out.cells (by decide)
  obtain ⟨p2, q2, rfl, hc2⟩ := HT7.out.cells (by decide)
  have x1 := (hc1 0 (by decide)).1
  have x2 := (hc1 2 (by decide)).2.1
  have x3 := (hc2 1 (by decide)).1
  have x4 := (hc2 1 (by decide)).2.1
  have x5 := (hc2 1 (by decide)).2.2
  rw [E1.out, Nat.zero_mul, Nat.add_zero] at x1
  rw [E2.out] at x2
  rw [F1.out] at x3
  rw [F2.out] at x4
  rw [F3.out] at x5
  simp only [Nat.reduceMul, Nat.add_assoc, Nat.reduceAdd] at x2 x3 x4 x5
  clear hc1 hc2
  go_wp2_with (go_at_call 17; refine (num_any _ _).mono ?_; rintro e w' ⟨rfl, rfl⟩)
  refine (C5.out _ _ _ HS7.out).mono ?_
  rintro e w5 ⟨rfl, hb⟩
  have HS8 := Lib.hid (HS7.out.below hb)
  have HW8 := Lib.hid (HW7.out.trans (hb.mono HW7.out.size))
  clear hb x1 x2 x3 x4 x5 HS7 HT7 HW7
  go_wp2_with fail
  refine (C6.out _ _ _ HS8.out).mono ?_
  rintro e w6 ⟨rfl, hb⟩
  have HW9 := Lib.hid (HW8.out.trans (hb.mono HW8.out.size))
  go_wp2_with fail
  go_ret
  exact ⟨rfl, HW9.out⟩

end Go.Proofs.Ytgdeaddfkcokpaa

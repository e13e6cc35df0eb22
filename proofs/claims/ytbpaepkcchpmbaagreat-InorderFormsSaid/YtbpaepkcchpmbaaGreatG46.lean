import Derived.Test.YtbpaepkcchpmbaaGreatG45
import Derived.Test.YtbpaepkcchpmbaaGreatG12
import Derived.Test.YtbpaepkcchpmbaaGreatG25
namespace Go.Proofs.YtbpaepkcchpmbaaGreat
open Go.RowKit
set_option maxRecDepth 100000 in
set_option maxHeartbeats 1000000 in
theorem feed_no {g hp n cx : Nat} {rel code : Int} {X : Option Addr} {gs : List Nat} {xs : List It} {cs : Array Value} {w : World} (hst : Has w g UT cs) (h6 : cs[6]? = some (.pointer (some ⟨hp, 0, none⟩))) (h8 : cs[8]? = some (.int .i64 rel)) (hh : HpS w gs hp 8192 xs) (hr : 0 ≤ rel ∧ rel ≤ 8192) (hl : xs.length ≤ 8192) (hcode : code ≠ 0)
    (hA : ∀ w1, Below w.heap.size w w1 → Calls Tryz.prog 70 #[.pointer (some ⟨g, 0, none⟩), .int .i64 (rel + (xs.length : Nat)), .slice X n cx] w1 fun e w2 => e = .returned (.int .i64 code) ∧ Below w1.heap.size w1 w2) :
    Calls Tryz.prog 52 #[.pointer (some ⟨g, 0, none⟩), .slice X n cx] w fun e w' => e = .returned (.int .i64 code) ∧ Below w.heap.size w w' := by
  have HA := Lib.hid hA
  have HS := Lib.hid hst
  have HH := Lib.hid hh
  clear hA hst hh
  go_enter Tryz.func52, Tryz.ntmps52
  go_upto_region 1 with fail
  refine rfe1_any (g := g) (hp := hp) (n := n) (cx := cx) (rel := rel) (X := X) (gs := gs) (xs := xs) (cs := cs) ⟨rfl, rfl, rfl, HS.out, h6, h8, HH.out, hr, hl⟩ (by kernel_rfl) ?_
  intro w1 hB1
  have HB1 := Lib.hid hB1
  have HA1 := Lib.hid (HA.out w1 hB1)
  clear hB1
  simp only [putAll, Act.put, List.setIfInBounds_toArray, List.set_cons_succ, List.set_cons_zero, List.drop_succ_cons, List.drop_zero]
  go_wp2_with fail
  refine HA1.out.mono ?_
  rintro e w2 ⟨rfl, hb2⟩
  have HB2 := Lib.hid (HB1.out.trans (hb2.mono HB1.out.size))
  clear hb2
  go_wp2_with fail
  go_ret
  exact ⟨rfl, HB2.out⟩
end Go.Proofs.YtbpaepkcchpmbaaGreat
namespace Go.Proofs.YtbpaepkcchpmbaaGreat
open Go.RowKit
theorem upS_good {seq : Int} : ∀ {ys : List It}, upS seq ys = true → goodAll ys = true
  | [], _ => rfl
  | y :: r, h => by
    simp only [upS, Bool.and_eq_true] at h
    have := upS_good h.2
    unfold goodAll at this ⊢
    rw [List.all_cons, h.1.1, this]
    rfl
def RuD.fed (u : RuD) (seq : Int) (gs : List Nat) (wt : List It) : RuD := { u with seq := seq, gs := gs, wt := wt }
set_option maxRecDepth 100000 in
set_option maxHeartbeats 1000000 in
theorem feed_ok {n cx : Nat} {X : Option Addr} {ys : List It} {u : RuD} {w : World} (h : RuX w u) (hx : Items w X n ys) (hfar : ∀ ad, 0 < n → X = some ad → ¬ u.U ad.block) (hr : 0 ≤ u.rel ∧ u.rel ≤ 8192) (hl : u.wt.length ≤ 8192) (hn : (n : Int) ≤ 8192 - (u.rel + (u.wt.length : Nat))) (hup : upS u.seq ys = true)
    (hlate : (ys.any fun x => decide (x.t < lineN u.mark u.late)) = false) :
    Calls Tryz.prog 52 #[.pointer (some ⟨u.g, 0, none⟩), .slice X n cx] w fun e w' => e = .returned (.int .i64 0) ∧ ∃ gs', RuX w' (u.fed (topS u.seq ys) gs' (insAll u.wt ys)) ∧ ButO u.U w w' ∧ (∀ k, k ∈ gs' → k ∈ u.gs ∨ w.heap.size ≤ k) := by
  have HR := Lib.hid h
  have HX := Lib.hid hx
  have HFAR := Lib.hid hfar
  have HAD : Hid (∀ w1, Below w.heap.size w w1 → Calls Tryz.prog 70 #[.pointer (some ⟨u.g, 0, none⟩), .int .i64 (u.rel + (u.wt.length : Nat)), .slice X n cx] w1 fun e w2 => e = .returned (.int .i64 0) ∧ ∃ w3, Below w1.heap.size w1 w3 ∧ w2 = w3.setCell ⟨u.g, 5, none⟩ (.int .i64 (topS u.seq ys))) := fun w1 hb => by
    have := fadm_ok (h.below hb).st (ruC_frC u) (u.rel + (u.wt.length : Nat)) (by omega) X n cx ys (hx.below hb) hn hup
    rw [hlate] at this
    exact this
  have HG := Lib.hid (upS_good hup)
  clear h hx hfar hup hlate
  go_enter Tryz.func52, Tryz.ntmps52
  go_upto_region 1 with fail
  refine rfe1_any (g := u.g) (hp := u.hp) (n := n) (cx := cx) (rel := u.rel) (X := X) (gs := u.gs) (xs := u.wt) (cs := ruC u) ⟨rfl, rfl, rfl, HR.out.st, rfl, rfl, HR.out.hp, hr, hl⟩ (by kernel_rfl) ?_
  intro w1 hB1
  have HB1 := Lib.hid hB1
  have HA1 := Lib.hid (HAD.out w1 hB1)
  clear hB1
  simp only [putAll, Act.put, List.setIfInBounds_toArray, List.set_cons_succ, List.set_cons_zero, List.drop_succ_cons, List.drop_zero]
  go_wp2_with fail
  refine HA1.out.mono ?_
  rintro e w2 ⟨rfl, w3, hb3, hw2⟩
  have HB3 := Lib.hid (HB1.out.trans (hb3.mono HB1.out.size))
  have hbg : ButO (fun k => k = u.g) w3 w2 := by rw [hw2]; exact ⟨rfl, rfl, rfl, by simp [World.setCell], fun k _ hn => heap_setCell_other _ _ _ _ (fun e => hn (by simp only at e; exact e))⟩
  have HR2 : Hid (RuX w2 { u with seq := topS u.seq ys }) := (HR.out.below HB3.out).setFront (mark := u.mark) (seq := topS u.seq ys) (rel := u.rel) (by rw [hw2]; exact (HR.out.below HB3.out).st.put 5 _) hbg
  have HBG := Lib.hid hbg
  have HX2 : Hid (Items w2 X n ys) := (HX.out.below HB3.out).butS (gs := [u.g]) ⟨hbg.os, hbg.tape, hbg.output, hbg.size, fun k hk hn => hbg.other k hk (fun e => hn (by simp [e]))⟩ (fun ad hp e hm => HFAR.out ad hp e (by
    rw [List.mem_singleton] at hm
    exact .inl (.inl hm)))
  have HPU := Lib.hid (push_ok X n cx ys HR2.out.hp HX2.out (fun ad hp e hm => HFAR.out ad hp e (.inr (.inl hm))) HG.out (by omega) hl (by show ¬ (8192 : Int) - (u.wt.length : Nat) < n; omega))
  have c6 : w2.cell? ⟨u.g, 6, none⟩ = some (.pointer (some ⟨u.hp, 0, none⟩)) := HR2.out.st.cell 6
  clear hb3 hw2 hbg
  go_wp2_with fail
  refine HPU.out.mono ?_
  rintro e w4 ⟨rfl, gs', hp4, hb4, hg4⟩
  have HR4 := Lib.hid (HR2.out.setHeap hb4 hp4 hg4)
  have HK : Hid (ButO u.U w w4) := (((below_butO HB3.out u.U).andThen HBG.out fun i hi _ => .inl (.inl hi))).andThen (butS_butO (O := fun k => k ∈ u.gs) hb4 fun k hk => hk) fun i hi _ => .inr (.inl hi)
  have HG4 : Hid (∀ k, k ∈ gs' → k ∈ u.gs ∨ w.heap.size ≤ k) := fun k hk => (hg4 k hk).imp id fun e => by have := HB3.out.size; have := HBG.out.size; omega
  clear hp4 hb4 hg4
  go_wp2_with fail
  go_ret
  exact ⟨rfl, gs', HR4.out, HK.out, HG4.out⟩
end Go.Proofs.YtbpaepkcchpmbaaGreat
namespace Go.Proofs.YtbpaepkcchpmbaaGreat
open Go.RowKit
set_option maxRecDepth 100000 in
set_option maxHeartbeats 1000000 in
theorem begin_any {n b c : Nat} {rs : List Rq} {late : Int} {w : World} (hq : FrQ w b c rs) (hn : rs.length = n) :
    Calls Tryz.prog 46 #[.agg (frC (some ⟨b, 0, none⟩) n c late (-4398046511104) 0)] w fun e w' => ∃ g hp mp gs, e = .returned (.pointer (some ⟨g, 0, none⟩)) ∧
      RuX w' ⟨g, b, c, rs, late, -4398046511104, 0, 0, hp, gs, [], mp, 0, .map [], fun _ => none, []⟩ ∧ Below w.heap.size w w' ∧ w.heap.size ≤ g ∧ w.heap.size ≤ mp ∧ (∀ k ∈ gs, w.heap.size ≤ k) := by
  have hmm := @run_makeMap Tryz.prog
  have HQ := Lib.hid hq
  subst hn
  clear hq
  unfold frC
  go_enter Tryz.func46, Tryz.ntmps46
  go_wp2_with fail
  refine (hnew_ok 8192 _ (by omega)).mono ?_
  rintro e w2 ⟨hp, gs, rfl, hp2, hg2, hb2⟩
  have hal : ∀ o, Below w.heap.size w (w.alloc o) := fun o => (Below.refl _ _).alloc (Nat.le_refl _) o
  have HX2 : Hid (Has w2 w.heap.size 87 (frC (some ⟨b, 0, none⟩) rs.length c late (-4398046511104) 0)) := (Has.made w _ _).below hb2 (by simp)
  have hsz : w.heap.size + 1 ≤ w2.heap.size := by have := hb2.size; simpa using this
  have HB2 : Hid (Below w.heap.size w w2) := (hal _).trans (hb2.mono (by simp))
  have HP2 := Lib.hid hp2
  have HG2 : Hid (∀ k, k ∈ gs → w.heap.size < k) := fun k hk => by have := hg2 k hk; simp at this; omega
  clear hp2 hg2 hb2 hal
  unfold frC at HX2
  go_wp2_with (refine wpList_load_row rfl 87 _ rfl w.heap.size rfl 87 _ (0, 0) _ HX2.out Tryz.underlying87 rfl Tryz.sizeFrn ?_)
  have hA : Below w2.heap.size w2 (w2.alloc (.map #[] 0)) := (Below.refl _ _).alloc (Nat.le_refl _) _
  have hA2 : Below (w2.alloc (.map #[] 0)).heap.size (w2.alloc (.map #[] 0)) ((w2.alloc (.map #[] 0)).alloc (.cells (ruC ⟨w2.heap.size + 1, b, c, rs, late, -4398046511104, 0, 0, hp, gs, [], w2.heap.size, 0, .map [], fun _ => none, []⟩) UT)) := (Below.refl _ _).alloc (Nat.le_refl _) _
  have hs1 : (w2.alloc (.map #[] 0)).heap.size = w2.heap.size + 1 := by simp
  have hT : Below w2.heap.size w2 _ := hA.trans (hA2.mono (by simp))
  have hst := Has.made (w2.alloc (.map #[] 0)) UT (ruC ⟨w2.heap.size + 1, b, c, rs, late, -4398046511104, 0, 0, hp, gs, [], w2.heap.size, 0, .map [], fun _ => none, []⟩)
  rw [hs1] at hst
  have hqb : ∀ k, QuB b rs k → k < w.heap.size := HQ.out.lt
  go_ret
  refine ⟨w2.heap.size + 1, hp, w2.heap.size, gs, rfl, ⟨hst, (HQ.out.below HB2.out).below hT, HP2.out.below hT, ⟨((MapF.empty w2).own.alloc _), fun _ => rfl, fun _ => rfl⟩, (fun r h => by cases h), (fun s _ => rfl), (fun r h => by cases h), (fun r h => by cases h), List.Pairwise.nil, List.Pairwise.nil, fun k hk hf => ?_, (fun r h => by cases h)⟩, HB2.out.trans (hT.mono HB2.out.size), by have := HB2.out.size; omega, HB2.out.size, fun k hk => by have := HG2.out k hk; omega⟩
  have h1 := HP2.out.lt k hk
  have h2 := HG2.out k hk
  rcases hf with h3 | h3 | h3
  · have h3 : k = w2.heap.size + 1 := h3
    omega
  · have h3 : k = w2.heap.size := h3
    omega
  · have := hqb k h3
    omega
end Go.Proofs.YtbpaepkcchpmbaaGreat
namespace Go.Proofs.YtbpaepkcchpmbaaGreat
open Go.RowKit
theorem run_settle {w : World} {u : RuD} {r : RD} {rest : List RD} {l : Int} {b c : Nat} {Vo : Value} {zs : List Rz} (h : RuX w u) (e : u.rows = r :: rest) (hi : RowPl u.qs r l) (hV : r.V = .slice (some ⟨b, 0, none⟩) r.its.length c) (hn : r.its.length ≤ 8192) (hZ : OutZ u.U w Vo zs) :
    Calls Tryz.prog 79 #[.pointer (some ⟨r.g, 0, none⟩)] w fun en w' => en = .returned (.int .i64 (r.its.length - mostTo r.xs r.xs.length : Nat)) ∧
      ∃ V, RuX w' { u with rows := { r with V := V, its := r.its.drop (r.its.length - mostTo r.xs r.xs.length) } :: rest } ∧ OutZ ({ u with rows := { r with V := V, its := r.its.drop (r.its.length - mostTo r.xs r.xs.length) } :: rest } : RuD).U w' Vo zs ∧
        RowPl u.qs { r with V := V, its := r.its.drop (r.its.length - mostTo r.xs r.xs.length) } l ∧ ButO r.U w w' ∧ (∀ k, ({ u with rows := { r with V := V, its := r.its.drop (r.its.length - mostTo r.xs r.xs.length) } :: rest } : RuD).U k → u.U k) := by
  have hmr : r ∈ u.rows := by rw [e]; exact List.mem_cons_self
  have hrow := h.row r hmr
  rw [hV] at hrow
  have hU : ∀ k, RowU r.g (.slice (some ⟨b, 0, none⟩) r.its.length c) r.L r.xs k ↔ r.U k := fun k => by
    unfold RD.U
    rw [hV]
  refine (settle_any r.g r.L b c r.its r.xs w hrow hn (by rw [hi.len]; exact h.frq.len.2) fun x hx => ?_).mono ?_
  · obtain ⟨i, hi2⟩ := List.getElem?_of_mem hx
    obtain ⟨q, e1, e2, e3, e4, e5, e6, e7, e8⟩ := hi.ln i x hi2
    exact e8.length_le
  · rintro en w' ⟨he, hr, hiff, hb⟩
    have hb2 : ButO r.U w w' := hb.weaken fun k hk => (hU k).1 hk
    refine ⟨he, _, h.setRow e (r' := { r with V := _, its := r.its.drop (r.its.length - mostTo r.xs r.xs.length) }) rfl rfl hr hb2 (fun k hk _ => hk) (fun k hk => .inl ((hU k).1 ((hiff k).1 hk))), ?_, hi.settled, hb2, ?_⟩
    · refine (hZ.butO hb2 fun k hk => .inr (.inr ⟨r, hmr, hk⟩)).mono fun k _ hk => ?_
      rcases h.newU e k hk with h1 | h1
      · exact h1.1
      · exact .inr (.inr ⟨r, hmr, (hU k).1 ((hiff k).1 h1)⟩)
    · intro k hk
      rcases h.newU e k hk with h1 | h1
      · exact h1.1
      · exact .inr (.inr ⟨r, hmr, (hU k).1 ((hiff k).1 h1)⟩)
end Go.Proofs.YtbpaepkcchpmbaaGreat
namespace Go.Proofs.YtbpaepkcchpmbaaGreat
open Go.RowKit
def StI (g : Nat) (cs : Array Value) (Pre Post : World → Prop) : Bool → Bool → World → Prop := fun b _ w => Has w g UT cs ∧ (match b with | true => Post w | false => Pre w)
theorem StI.below {g : Nat} {cs : Array Value} {Pre Post : World → Prop} (h1 : ∀ w w', Pre w → Below w.heap.size w w' → Pre w') (h2 : ∀ w w', Post w → Below w.heap.size w w' → Post w') {b c : Bool} {w w' : World} (h : StI g cs Pre Post b c w) (hb : Below w.heap.size w w') : StI g cs Pre Post b c w' :=
  ⟨h.1.below hb h.1.lt, by cases b with
    | true => exact h2 _ _ h.2 hb
    | false => exact h1 _ _ h.2 hb⟩
def rtl7D : List (Option Tmp) := [some 28, some 29, some 30, some 31, some 32, some 33, some 34, some 35, some 36, none]
def rtl7F (g rg _B : Nat) (rel gone nrel : Int) (_cs : Array Value) (_gs : List Nat) (_Pre _Post : World → Prop) : List Fact := [isV (.pointer (some ⟨g, 0, none⟩)), isV (.pointer (some ⟨g, 0, none⟩)), isV (.pointer (some ⟨g, 8, none⟩)), isV (.int .i64 rel), isV (.pointer (some ⟨rg, 0, none⟩)), isV (.int .i64 gone), isV (.int .i64 nrel), isV (.pointer (some ⟨g, 0, none⟩)), isV (.pointer (some ⟨g, 8, none⟩))]
theorem rtl7F_mono (g rg B : Nat) (rel gone nrel : Int) (cs : Array Value) (gs : List Nat) (Pre Post : World → Prop) : ∀ φ ∈ rtl7F g rg B rel gone nrel cs gs Pre Post, Mono φ := by
  unfold rtl7F
  repeat (first | exact monos_nil | (refine monos_cons (mono_isV _) ?_))
structure rtl7S (g rg B : Nat) (rel gone nrel : Int) (cs : Array Value) (gs : List Nat) (Pre Post : World → Prop) (a0 : Act) (w0 : World) : Prop where
  size : a0.tmps.size = 51
  v0 : a0.tmps.getD 0 undef = .pointer (some ⟨g, 0, none⟩)
  v6 : a0.tmps.getD 6 undef = .pointer (some ⟨rg, 0, none⟩)
  lB : ∀ k, k ∈ gs → k < B
  st : Has w0 g UT cs
  c8 : cs[8]? = some (.int .i64 rel)
  pre : Pre w0
  preB : ∀ w w', Pre w → Below w.heap.size w w' → Pre w'
  postB : ∀ w w', Post w → Below w.heap.size w w' → Post w'
  eN : rel - gone = nrel
  bN : -1000000 ≤ nrel ∧ nrel ≤ 1000000
  cl : ∀ w, Has w g UT cs → Pre w → Calls Tryz.prog 79 #[.pointer (some ⟨rg, 0, none⟩)] w fun e w' => e = .returned (.int .i64 gone) ∧ ButS gs w w' ∧ Has w' g UT cs ∧ Post w'
section
variable {g rg B : Nat} {rel gone nrel : Int} {cs : Array Value} {gs : List Nat} {Pre Post : World → Prop} {a0 : Act} {w0 : World} (S : rtl7S g rg B rel gone nrel cs gs Pre Post a0 w0)
include S
omit S in
theorem rtl7F_monoS : ∀ φ ∈ rtl7F g rg B rel gone nrel cs gs Pre Post, MonoS gs φ := by
  unfold rtl7F
  repeat (first | exact allS_nil _ | (refine allS_cons (isV_monoS _ _) ?_))
set_option maxRecDepth 100000 in
set_option maxHeartbeats 8000000 in
theorem rtl7_ok : AllOps (fun j o => ∀ (a : Act) (w : World) (b1 b2 : Bool), (j = 5 → b1 = false ∧ b2 = false) → (j = 1000 → b1 = true ∧ b2 = false) → MI gs (StI g cs Pre Post) w0 b1 b2 w → FrD (rtl7D.take 9) a0 a → needs rtl7D (rtl7F g rg B rel gone nrel cs gs Pre Post) a w o.after.toList → AskM Tryz.prog rtl7D (factAt (rtl7F g rg B rel gone nrel cs gs Pre Post) j) (ButS gs) (ButS gs) (MI gs (StI g cs Pre Post) w0) 5 1000 j o a w) 0 ((opsOf 7 Tryz.f57).take 9) := by
  simp only [opsOf, Tryz.f57, opsAt, Option.bind, Option.or, Option.getD, reduceCtorEq, if_true, if_false, Nat.reduceEqDiff, List.take_succ_cons, List.take_zero]
  refine ⟨?_, ?_⟩
  · intro a w b1 b2 h1 h2 hI hF hd
    refine askM_d (by decide) (by decide) ?_
    exact step_move (guard_none rfl) rfl _ rfl ((hF.other 0 rfl).trans S.v0)
  refine ⟨?_, ?_⟩
  · intro a w b1 b2 h1 h2 hI hF hd
    refine askM_d (by decide) (by decide) ?_
    have h28 : a.tmps.getD 28 undef = .pointer (some ⟨g, 0, none⟩) := hd.1 rfl
    exact rf_nilck (guard_none rfl) rfl _ rfl _ h28 rfl
  refine ⟨?_, ?_⟩
  · intro a w b1 b2 h1 h2 hI hF hd
    refine askM_d (by decide) (by decide) ?_
    have h29 : a.tmps.getD 29 undef = .pointer (some ⟨g, 0, none⟩) := hd.1 rfl
    exact rf_faddr (guard_none rfl) rfl _ _ _ rfl _ _ 8 _ h29 (by omega) (fun _ _ => by kernel_rfl) rfl
  refine ⟨?_, ?_⟩
  · intro a w b1 b2 h1 h2 hI hF hd
    refine askM_d (by decide) (by decide) ?_
    have h30 : a.tmps.getD 30 undef = .pointer (some ⟨g, 8, none⟩) := hd.1 rfl
    exact rf_loadi (guard_none rfl) rfl _ rfl _ _ h30 _ ((hI.st.1.cell 8).trans S.c8) rfl
  refine ⟨?_, ?_⟩
  · intro a w b1 b2 h1 h2 hI hF hd
    refine askM_d (by decide) (by decide) ?_
    exact step_move (guard_none rfl) rfl _ rfl ((hF.other 6 rfl).trans S.v6)
  refine ⟨?_, ?_⟩
  · intro a w b1 b2 h1 h2 hI hF hd
    refine askM_1 rfl ?_
    have h32 : a.tmps.getD 32 undef = .pointer (some ⟨rg, 0, none⟩) := hd.1 rfl
    obtain ⟨rfl, rfl⟩ := h1 rfl
    refine stepL_call (guard_none rfl) rfl _ _ (rf_call_run Tryz.func79 (by kernel_rfl) (by kernel_rfl) _ _ rfl) ?_
    simp only [List.map_toArray, List.map_cons, List.map_nil, Act.eval, h32]
    exact (S.cl w hI.st.1 hI.st.2).mono (by rintro e w1 ⟨rfl, hb, hh, hp⟩; exact ⟨_, rfl, hb, ⟨hI.gr.trans hb, hh, hp⟩, rfl⟩)
  refine ⟨?_, ?_⟩
  · intro a w b1 b2 h1 h2 hI hF hd
    refine askM_d (by decide) (by decide) ?_
    have h31 : a.tmps.getD 31 undef = .int .i64 rel := hd.1 rfl
    have h33 : a.tmps.getD 33 undef = .int .i64 gone := hd.2.1 rfl
    exact rf_subr (guard_none rfl) rfl _ _ rfl rel gone nrel h31 h33 S.eN (by have := S.bN; omega) (by have := S.bN; omega) rfl
  refine ⟨?_, ?_⟩
  · intro a w b1 b2 h1 h2 hI hF hd
    refine askM_d (by decide) (by decide) ?_
    have h28 : a.tmps.getD 28 undef = .pointer (some ⟨g, 0, none⟩) := hd.1 rfl
    exact rf_nilck (guard_none rfl) rfl _ rfl _ h28 rfl
  refine ⟨?_, ?_⟩
  · intro a w b1 b2 h1 h2 hI hF hd
    refine askM_d (by decide) (by decide) ?_
    have h35 : a.tmps.getD 35 undef = .pointer (some ⟨g, 0, none⟩) := hd.1 rfl
    exact rf_faddr (guard_none rfl) rfl _ _ _ rfl _ _ 8 _ h35 (by omega) (fun _ _ => by kernel_rfl) rfl
  trivial
set_option maxRecDepth 100000 in
theorem rtl7_any {Q : Exit → Act → World → Prop} {l : List Oper} (hl : opsOf 7 Tryz.f57 = l) (hend : ∀ w : World, MI gs (StI g cs Pre Post) w0 true false w → wpList Tryz.prog l.toArray Q (l.drop 9) (putAll a0 [(28, .pointer (some ⟨g, 0, none⟩)), (29, .pointer (some ⟨g, 0, none⟩)), (30, .pointer (some ⟨g, 8, none⟩)), (31, .int .i64 rel), (32, .pointer (some ⟨rg, 0, none⟩)), (33, .int .i64 gone), (34, .int .i64 nrel), (35, .pointer (some ⟨g, 0, none⟩)), (36, .pointer (some ⟨g, 8, none⟩))]) w) :
    (Code.region 7 l.toArray true).wp Tryz.prog Q a0 w0 := by
  subst hl
  refine region_two gs (StI g cs Pre Post) 5 1000 (rtl7F _ _ _ _ _ _ _ _ _ _) rtl7D 9 51 S.size rfl (by kernel_rfl) (by kernel_rfl) (by kernel_rfl) (by omega) (by omega) (by kernel_rfl) (fun _ _ _ _ h hb => h.below S.preB S.postB hb) (⟨S.st, S.pre⟩) (rtl7F_mono _ _ _ _ _ _ _ _ _ _) (rtl7F_monoS) (rtl7_ok S) fun a w hI hF h => ?_
  have hv : valsAre a [(28, .pointer (some ⟨g, 0, none⟩)), (29, .pointer (some ⟨g, 0, none⟩)), (30, .pointer (some ⟨g, 8, none⟩)), (31, .int .i64 rel), (32, .pointer (some ⟨rg, 0, none⟩)), (33, .int .i64 gone), (34, .int .i64 nrel), (35, .pointer (some ⟨g, 0, none⟩)), (36, .pointer (some ⟨g, 8, none⟩))] := by
    refine ⟨?_, ?_, ?_, ?_, ?_, ?_, ?_, ?_, ?_, trivial⟩
    · exact h 0 (some 28) (by omega) rfl
    · exact h 1 (some 29) (by omega) rfl
    · exact h 2 (some 30) (by omega) rfl
    · exact h 3 (some 31) (by omega) rfl
    · exact h 4 (some 32) (by omega) rfl
    · exact h 5 (some 33) (by omega) rfl
    · exact h 6 (some 34) (by omega) rfl
    · exact h 7 (some 35) (by omega) rfl
    · exact h 8 (some 36) (by omega) rfl
  rw [frame_is hF _ hv (by rfl) (by rfl)]
  exact hend w hI
end
end Go.Proofs.YtbpaepkcchpmbaaGreat
namespace Go.Proofs.YtbpaepkcchpmbaaGreat
theorem times_first {M : List It} (h : Times M) : ∀ x, x ∈ M → (nthI M 0).t ≤ x.t := by
  cases M with
  | nil => intro x hx; cases hx
  | cons y r =>
    intro x hx
    rcases List.mem_cons.1 hx with rfl | hx
    · exact Int.le_refl _
    · exact (List.pairwise_cons.1 h).1 x hx
theorem runsU_far {g : Int} {C M : List It} : ∀ {P S : List (List It)}, RunsU g (P ++ C :: M :: S) → (lastI C).t + g ≤ (nthI M 0).t
  | [], _, h => h.2.2.1
  | _ :: P, _, h => runsU_far (P := P) (runsU_tail h)
theorem flat_last {C : List It} (hC : C ≠ []) (P : List (List It)) (ht : Times (P ++ [C]).flatten) : ∀ x, x ∈ (P ++ [C]).flatten → x.t ≤ (lastI C).t := by
  intro x hx
  rw [List.flatten_append] at ht hx
  simp only [List.flatten_cons, List.flatten_nil, List.append_nil] at ht hx
  obtain ⟨h1, h2, h3⟩ := List.pairwise_append.1 ht
  rcases List.mem_append.1 hx with hx | hx
  · exact h3 x hx _ (last_mem hC)
  · exact times_last h2 hC x hx
theorem runs_iff {g : Int} {X M : List It} (ht : Times X) : M ∈ runsG g X ↔ ∃ A B, X = A ++ (M ++ B) ∧ M ≠ [] ∧ Near g M ∧ (∀ x, x ∈ A → x.t + g ≤ (nthI M 0).t) ∧ (∀ y, y ∈ B → (lastI M).t + g ≤ y.t) := by
  constructor
  · intro hM
    obtain ⟨As, Bs, e⟩ := List.append_of_mem hM
    have hu := runsG_u g X
    have hx := runsG_flat g X
    rw [e] at hu hx
    rw [List.flatten_append, List.flatten_cons] at hx
    obtain ⟨m1, m2⟩ := runsG_ne hM
    have ht' := ht
    rw [← hx] at ht'
    obtain ⟨t1, t2, t3⟩ := List.pairwise_append.1 ht'
    obtain ⟨t4, t5, t6⟩ := List.pairwise_append.1 t2
    refine ⟨As.flatten, Bs.flatten, hx.symm, m1, m2, fun x hxa => ?_, fun y hyb => ?_⟩
    · rcases List.eq_nil_or_concat As with rfl | ⟨P, C, rfl⟩
      · cases hxa
      · rw [List.concat_eq_append] at hu hxa t1 e
        have hC : C ∈ runsG g X := by rw [e]; simp
        have hf := runsU_far (P := P) (C := C) (M := M) (S := Bs) (by rw [List.append_assoc] at hu; exact hu)
        have := flat_last (runsG_ne hC).1 P t1 x hxa
        omega
    · cases Bs with
      | nil => cases hyb
      | cons D S =>
        have hD : D ∈ runsG g X := by rw [e]; simp
        have hf := runsU_far hu
        have hne := (runsG_ne hD).1
        have : (nthI D 0).t ≤ y.t := by
          have h0 := times_first t5 y hyb
          have e0 : nthI (D :: S).flatten 0 = nthI D 0 := by
            cases D with
            | nil => exact absurd rfl hne
            | cons z r => rfl
          rw [e0] at h0
          exact h0
        have h7 : (lastI M).t + g ≤ (nthI D 0).t := by
          have := runsU_far (g := g) (C := M) (M := D) (P := As) (S := S) hu
          exact this
        omega
  · rintro ⟨A, B, rfl, m1, m2, hA, hB⟩
    obtain ⟨t1, t2, t3⟩ := List.pairwise_append.1 ht
    obtain ⟨t4, t5, t6⟩ := List.pairwise_append.1 t2
    have e0 : nthI (M ++ B) 0 = nthI M 0 := by
      cases M with
      | nil => exact absurd rfl m1
      | cons z r => rfl
    rw [runsG_append (xs := A) fun x hx y hy => by
      have h1 := hA x hx
      have h2 := times_first t2 y hy
      rw [e0] at h2
      omega]
    rw [runsG_append (xs := M) fun x hx y hy => by
      have h1 := times_last t4 m1 x hx
      have h2 := hB y hy
      omega]
    have := runsG_blk (g := g) m1 m2 (r := []) (xs := []) rfl (fun C hC => by cases hC)
    rw [List.append_nil] at this
    rw [this]
    simp
theorem runs_ext {g : Int} (hg : 0 < g) {R E M : List It} (ht : Times (R ++ E)) (hE : ∀ x, x ∈ E → (lastI M).t + g ≤ x.t) : M ∈ runsG g (R ++ E) ↔ M ∈ runsG g R := by
  rw [runs_iff ht, runs_iff (List.pairwise_append.1 ht).1]
  constructor
  · rintro ⟨A, B, e, m1, m2, hA, hB⟩
    rw [← List.append_assoc] at e
    rcases List.append_eq_append_iff.1 e with ⟨a', e1, e2⟩ | ⟨c', e1, e2⟩
    · rcases List.eq_nil_or_concat a' with rfl | ⟨P, z, rfl⟩
      · rw [List.append_nil] at e1
        exact ⟨A, [], by rw [List.append_nil]; exact e1.symm, m1, m2, hA, fun y hy => by cases hy⟩
      · rw [List.concat_eq_append] at e1 e2
        exfalso
        have hz : lastI M = z := by
          have h1 := congrArg List.getLast? e1
          have hM : M.getLast? = some (M.getLast m1) := List.getLast?_eq_some_getLast m1
          rw [List.getLast?_append, hM, ← List.append_assoc, List.getLast?_append] at h1
          simp only [List.getLast?_singleton, Option.some_or, Option.some.injEq] at h1
          unfold lastI
          rw [hM]
          exact h1
        have := hE z (by rw [e2]; simp)
        rw [hz] at this
        omega
    · exact ⟨A, c', by rw [← List.append_assoc]; exact e1, m1, m2, hA, fun y hy => hB y (by rw [e2]; exact List.mem_append_left _ hy)⟩
  · rintro ⟨A, B, e, m1, m2, hA, hB⟩
    refine ⟨A, B ++ E, by rw [e]; simp, m1, m2, hA, fun y hy => ?_⟩
    rcases List.mem_append.1 hy with hy | hy
    · exact hB y hy
    · exact hE y hy
section
variable {k kd sz sl s : Int} {R E : List It} {p : Wn}
theorem winsQ_ext (hq : QnOk kd sz sl) (ht : Times (R ++ E)) (hs : ∀ x, x ∈ R ++ E → x.s = s) (hE : ∀ x, x ∈ E → p.b ≤ x.t) : p ∈ winsQ k (qwN kd sz sl) (R ++ E) ↔ p ∈ winsQ k (qwN kd sz sl) R := by
  by_cases h2 : kd = 2
  · rw [winsQ_ses h2, winsQ_ses h2, ses_iff (by have := hq.z; omega) ht hs, ses_iff (by have := hq.z; omega) (List.pairwise_append.1 ht).1 fun x hx => hs x (List.mem_append_left _ hx)]
    constructor
    · rintro ⟨e1, e2, e3, e4⟩
      exact ⟨e1, (runs_ext (by have := hq.z; omega) ht fun x hx => by have := hE x hx; omega).1 e2, e3, e4⟩
    · rintro ⟨e1, e2, e3, e4⟩
      exact ⟨e1, (runs_ext (by have := hq.z; omega) ht fun x hx => by have := hE x hx; omega).2 e2, e3, e4⟩
  · rw [winsQ_win h2, winsQ_win h2, win_iff (hq.s1 h2) hs, win_iff (hq.s1 h2) fun x hx => hs x (List.mem_append_left _ hx)]
    have e : (R ++ E).filter (fun x => decide (p.a ≤ x.t ∧ x.t < p.b)) = R.filter fun x => decide (p.a ≤ x.t ∧ x.t < p.b) := by
      rw [List.filter_append, show E.filter (fun x => decide (p.a ≤ x.t ∧ x.t < p.b)) = [] from List.filter_eq_nil_iff.2 (fun x hx => by have := hE x hx; simp only [decide_eq_true_eq]; omega), List.append_nil]
    rw [e]
end
theorem winsQ_ser {k : Int} {q : QW} (hq : q.Ok) {ys : List It} {p : Wn} (ht : Times ys) : p ∈ winsQ k q ys ↔ p ∈ winsQ k q (ys.filter (sitB p.s)) := by
  unfold winsQ
  by_cases c : q.ses = true
  · rw [if_pos c, if_pos c, (sesL_of (hq.gap c) ht).memI, (sesL_of (hq.gap c) (times_filter ht _)).memI, List.filter_filter]
    simp only [Bool.and_self]
  · rw [if_neg c, if_neg c, winsW_mem hq.nodup, winsW_mem hq.nodup, List.filter_filter]
    have e : (ys.filter fun x => decide (x.s = p.s ∧ (p.a, p.b) ∈ q.W x.t)) = ys.filter fun x => (decide (x.s = p.s ∧ (p.a, p.b) ∈ q.W x.t) && sitB p.s x) := List.filter_congr fun x _ => by
      unfold sitB
      by_cases h : x.s = p.s <;> simp [h]
    rw [← e]
theorem qw_eq (q : Qu) : qw q = qwN q.kind q.size q.slide := rfl
theorem win_s {k : Int} {q : QW} (hq : q.Ok) {R : List It} (ht : Times R) {s : Int} (hs : ∀ x, x ∈ R → x.s = s) {p : Wn} (hp : p ∈ winsQ k q R) : p.s = s := by
  have hm := first_mem (winsQ_ne hq ht hp)
  obtain ⟨h1, h2⟩ := winsQ_sub hq ht hp hm
  rw [← h2]
  exact hs _ h1
theorem runs_head {g : Int} (W : List It) : ∀ {M : List It}, M ≠ [] → Near g M → ∃ P Bs, runsG g (M ++ W) = (M ++ P) :: Bs ∧ W = P ++ Bs.flatten
  | [], h, _ => absurd rfl h
  | [x], _, _ => by
    have hf := runsG_flat g W
    show ∃ P Bs, runsG g (x :: W) = _ ∧ _
    unfold runsG
    cases h : runsG g W with
    | nil => rw [h] at hf; exact ⟨[], [], rfl, hf.symm⟩
    | cons B Bs =>
      rw [h] at hf
      by_cases c : (nthI B 0).t < x.t + g
      · exact ⟨B, Bs, by simp only [if_pos c]; rfl, hf.symm⟩
      · exact ⟨[], B :: Bs, by simp only [if_neg c]; rfl, hf.symm⟩
  | x :: y :: r, _, hn => by
    obtain ⟨P, Bs, e1, e2⟩ := runs_head W (M := y :: r) (by simp) (near_tail hn)
    refine ⟨P, Bs, ?_, e2⟩
    show runsG g (x :: ((y :: r) ++ W)) = _
    unfold runsG
    rw [e1]
    have c : (nthI (y :: r ++ P) 0).t < x.t + g := hn.1
    simp only [if_pos c]
    rfl
theorem lane_held {kd sz sl s ℓ : Int} {R W : List It} {l : Ln} {k : Int} (hq : QnOk kd sz sl) (hI : LnI kd sz sl s R ℓ l) (hW : ∀ x, x ∈ W → x.s = s ∧ ℓ ≤ x.t) (ht : Times (R ++ W)) (hnd : (R ++ W).Nodup) {x : It} (hx : x ∈ R) :
    x ∈ l.its ↔ ∃ p, p ∈ winsQ k (qwN kd sz sl) (R ++ W) ∧ ℓ < p.b ∧ x ∈ p.xs := by
  have hs : ∀ y, y ∈ R ++ W → y.s = s := fun y hy => (List.mem_append.1 hy).elim (hI.ser y) fun h => (hW y h).1
  have hdis : ∀ y, y ∈ R → y ∉ W := fun y h1 h2 => (List.nodup_append.1 hnd).2.2 y h1 y h2 rfl
  have htop := hI.top
  by_cases h2 : kd = 2
  · rw [winsQ_ses h2]
    have S := hI.ses h2
    have hz := hq.z
    have key : ∀ p, p ∈ sesL k sz (R ++ W) ↔ p.k = k ∧ p.xs ∈ runsG sz (R ++ W) ∧ p.a = (nthI p.xs 0).t ∧ p.b = (lastI p.xs).t + sz := fun p => ses_iff (by omega) ht hs
    by_cases hn : l.its = []
    · rw [hn]
      refine ⟨fun h => (by cases h), ?_⟩
      rintro ⟨p, hp, hb, hxp⟩
      exfalso
      obtain ⟨e1, e2, e3, e4⟩ := (key p).1 hp
      rw [runsG_append fun y hy z hz2 => by have := S.none hn y hy; have := (hW z hz2).2; omega] at e2
      rcases List.mem_append.1 e2 with e2 | e2
      · have hm : lastI p.xs ∈ R := by rw [← runsG_flat sz R]; exact List.mem_flatten.2 ⟨_, e2, last_mem (runsG_ne e2).1⟩
        have := S.none hn _ hm
        omega
      · have hm : x ∈ W := by rw [← runsG_flat sz W]; exact List.mem_flatten.2 ⟨_, e2, hxp⟩
        exact hdis x hx hm
    · obtain ⟨R1, r1, r2, r3, r4, r5, r6⟩ := S.some_ hn
      have hll : ∀ y, y ∈ l.its → y ∈ R := fun y hy => by rw [r1]; exact List.mem_append_right _ hy
      have htl : Times l.its := by
        have := hI.times
        rw [r1] at this
        exact (List.pairwise_append.1 this).2.1
      have hsplit : runsG sz (R ++ W) = runsG sz R1 ++ runsG sz (l.its ++ W) := by
        rw [r1, List.append_assoc]
        refine runsG_append fun y hy z hz2 => ?_
        have h1 := r3 y hy
        rcases List.mem_append.1 hz2 with h | h
        · have := times_first htl z h; omega
        · have h3 := (hW z h).2
          have h4 := htop _ (hll _ (first_mem hn))
          omega
      obtain ⟨P, Bs, b1, b2⟩ := runs_head W hn r2
      have hx1 : x ∈ l.its → x ∉ R1 := fun h1 h2 => by have := r3 x h2; have := times_first htl x h1; omega
      constructor
      · intro hxl
        refine ⟨⟨k, (nthI (l.its ++ P) 0).t, (lastI (l.its ++ P)).t + sz, l.its ++ P⟩, (key _).2 ⟨rfl, by rw [hsplit, b1]; simp, rfl, rfl⟩, ?_, List.mem_append_left _ hxl⟩
        show ℓ < (lastI (l.its ++ P)).t + sz
        have htp : Times (l.its ++ P) := by
          have h5 := ht
          rw [r1, b2, List.append_assoc, ← List.append_assoc l.its] at h5
          exact (List.pairwise_append.1 (List.pairwise_append.1 h5).2.1).1
        have := times_last htp (by simp [hn]) (lastI l.its) (List.mem_append_left _ (last_mem hn))
        omega
      · rintro ⟨p, hp, hb, hxp⟩
        obtain ⟨e1, e2, e3, e4⟩ := (key p).1 hp
        rw [hsplit] at e2
        rcases List.mem_append.1 e2 with e2 | e2
        · exfalso
          have hm : lastI p.xs ∈ R1 := by rw [← runsG_flat sz R1]; exact List.mem_flatten.2 ⟨_, e2, last_mem (runsG_ne e2).1⟩
          have h1 := r3 _ hm
          have h4 := htop _ (hll _ (first_mem hn))
          omega
        · have hm : x ∈ l.its ++ W := by rw [← runsG_flat sz (l.its ++ W)]; exact List.mem_flatten.2 ⟨_, e2, hxp⟩
          rcases List.mem_append.1 hm with h | h
          · exact h
          · exact absurd h (hdis x hx)
  · rw [winsQ_win h2]
    obtain ⟨j, i1, i2, i3⟩ := (hI.win h2).its
    have h1 := hq.s1 h2
    have hz := hq.s2 h2
    have key : ∀ p, p ∈ winsW k (prsW (spQ kd sz sl) (R ++ W)) ↔ p.k = k ∧ (∃ j : Int, p.a = j * stepQ kd sz sl) ∧ p.b = p.a + sz ∧ p.xs ≠ [] ∧ p.xs = (R ++ W).filter fun x => decide (p.a ≤ x.t ∧ x.t < p.b) := fun p => win_iff h1 hs
    constructor
    · intro hxl
      have hxj : j * stepQ kd sz sl ≤ x.t := by
        rw [i1, List.mem_filter] at hxl
        exact of_decide_eq_true hxl.2
      have hxb : x.t < j * stepQ kd sz sl + sz := by have := htop x hx; omega
      have hmem : x ∈ (R ++ W).filter fun x => decide (j * stepQ kd sz sl ≤ x.t ∧ x.t < j * stepQ kd sz sl + sz) := List.mem_filter.2 ⟨List.mem_append_left _ hx, decide_eq_true ⟨hxj, hxb⟩⟩
      exact ⟨⟨k, j * stepQ kd sz sl, j * stepQ kd sz sl + sz, (R ++ W).filter fun x => decide (j * stepQ kd sz sl ≤ x.t ∧ x.t < j * stepQ kd sz sl + sz)⟩, (key _).2 ⟨rfl, ⟨j, rfl⟩, rfl, List.ne_nil_of_mem hmem, rfl⟩, i2, hmem⟩
    · rintro ⟨p, hp, hb, hxp⟩
      obtain ⟨e1, ⟨i, e2⟩, e3, e4, e5⟩ := (key p).1 hp
      rw [e5, List.mem_filter] at hxp
      have h3 := of_decide_eq_true hxp.2
      rw [i1, List.mem_filter]
      refine ⟨hx, decide_eq_true ?_⟩
      have : j * stepQ kd sz sl ≤ i * stepQ kd sz sl := mul_step (by omega) (by omega)
      omega
end Go.Proofs.YtbpaepkcchpmbaaGreat

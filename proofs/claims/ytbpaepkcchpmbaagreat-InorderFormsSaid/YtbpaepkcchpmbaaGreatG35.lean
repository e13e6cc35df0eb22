import Derived.Test.YtbpaepkcchpmbaaGreatG34
import Derived.Deep.RegionLaw
import Derived.Lib.SliceRun
import Derived.Laws.IdiomCopy
import Derived.Test.YtbpaepkcchpmbaaGreatG22
namespace Go.Proofs.YtbpaepkcchpmbaaGreat
open Go.RowKit
def tellX (line : Int) (z : Lr × List It) : List Wn × Ln := tellLn z.1.k z.1.q.kind z.1.q.size z.1.q.slide line ⟨z.2, z.1.a, z.1.b⟩
def tellD (line : Int) (z : Lr × List It) : Lr × List It := (z.1.nx (tellX line z).2.a (tellX line z).2.b, (tellX line z).2.its)
def tellRv (line : Int) (z : Lr × List It) : List Rv := (tellX line z).1.map (valW z.1.q z.1.s)
structure TeQ (E : Nat → Prop) (w0 : World) (U : Nat → Prop) (s : Int) (R : List It) (ℓ : Int) (xs : List LX) : Prop where
  q : ∀ x, x ∈ xs → mayQ x.r.q.kind x.r.q.agg x.r.q.size x.r.q.slide x.r.q.bs x.r.q.rank = true
  bs : ∀ x, x ∈ xs → Ints w0 x.r.B x.r.q.bs.length x.r.q.bs
  far : ∀ x, x ∈ xs → ∀ ad, x.r.B = some ad → E ad.block
  ser : ∀ x, x ∈ xs → x.r.s = s
  inv : ∀ x, x ∈ xs → LnI x.r.q.kind x.r.q.size x.r.q.slide s R ℓ x.ln
  its : ∀ x, x ∈ R → itemB x = true ∧ x.s = s
  len : ∀ x, x ∈ xs → x.its.length ≤ 8192
  e0 : ∀ k, E k → k < w0.heap.size
  eu : ∀ k, E k → ¬ U k
structure TeR (E : Nat → Prop) (w0 : World) (g L : Nat) (VI : Value) (its : List It) (xs : List LX) (line : Int) (V0 : Value) (zs0 : List Rz) (i : Nat) (V : Value) (zs : List Rz) (xs1 : List LX) (w : World) : Prop where
  row : RowX w g VI L its xs1
  out : OutZ (fun k => E k ∨ RowU g VI L xs1 k) w V zs
  dat : xs1.map LX.dat = ((xs.map LX.dat).take i).map (tellD line) ++ (xs.map LX.dat).drop i
  told : zs.map Rz.val = zs0.map Rz.val ++ ((xs.map LX.dat).take i).flatMap (tellRv line)
  own : ∀ k, RowU g VI L xs1 k → RowU g VI L xs k ∨ (w0.heap.size ≤ k ∧ k < w.heap.size)
  kp : ButO (fun k => RowU g VI L xs k ∨ V0.ownBlock = some k) w0 w
  vb : V.ownBlock = V0.ownBlock ∨ ∃ k, V.ownBlock = some k ∧ w0.heap.size ≤ k
  cap : zs.length ≤ zs0.length + i * 524288
section
variable {E : Nat → Prop} {w0 w w' : World} {g L i : Nat} {VI V0 V : Value} {its R : List It} {xs xs1 : List LX} {line ℓ s : Int} {zs0 zs : List Rz}
set_option maxHeartbeats 1000000 in
theorem ter_call (h : TeR E w0 g L VI its xs line V0 zs0 i V zs xs1 w) (hq : TeQ E w0 (RowU g VI L xs) s R ℓ xs) (hV0 : ∀ k, V0.ownBlock = some k → ¬ (E k ∨ RowU g VI L xs k)) (hi : i < xs.length) (hl : ℓ ≤ line) (hx : xs.length ≤ 64) (hz : zs0.length ≤ 536870912) :
    Calls Tryz.prog 111 #[.pointer (some ⟨L, i * 11, none⟩), .int .i64 line, V] w fun e w' => ∃ V2 zs2 xs2, e = .returned V2 ∧ TeR E w0 g L VI its xs line V0 zs0 (i + 1) V2 zs2 xs2 w' := by
  have hdl : i < (xs.map LX.dat).length := by simpa using hi
  obtain ⟨hset, hat⟩ := take_set (tellD line) (xs.map LX.dat) (xs1.map LX.dat) i hdl h.dat
  rw [List.getElem_map] at hset hat
  rw [List.getElem?_map] at hat
  obtain ⟨x, hx1, hx2⟩ := Option.map_eq_some_iff.1 hat
  have hl1 := (List.getElem?_eq_some_iff.1 hx1).1
  have he1 := (List.getElem?_eq_some_iff.1 hx1).2
  have hr : x.r = (xs[i]).r := congrArg Prod.fst hx2
  have hits : x.its = (xs[i]).its := congrArg Prod.snd hx2
  have hxm : x ∈ xs1 := List.mem_of_getElem? hx1
  have hm : xs[i] ∈ xs := List.getElem_mem hi
  have hq1 := hq.q _ hm
  have hbs := hq.bs _ hm
  have hfr := hq.far _ hm
  have hser := hq.ser _ hm
  have hinv := hq.inv _ hm
  have hln := hq.len _ hm
  unfold LX.ln at hinv
  rw [← hr] at hq1 hbs hfr hser hinv
  rw [← hits] at hinv hln
  rw [← hser] at hinv
  have hw0 := h.kp.size
  have hLx : ¬ x.O L := fun e => (h.row.off x hxm L e).2.1 rfl
  have hlt : i < (xs1.map (·.r)).length := by simpa using hl1
  have hLC : LnC (rowLn (xs1.map (·.r))).toArray (i * 11) x.r := by
    have := rowLn_lane (xs1.map (·.r)) hlt
    rw [List.getElem_map, he1] at this
    exact this
  have hUx : ∀ k, RowU g VI L xs1 k → ¬ E k := fun k hk e => by
    rcases h.own k hk with h1 | h1
    · exact hq.eu k e h1
    · have := hq.e0 k e; omega
  have hB : Ints w x.r.B x.r.q.bs.length x.r.q.bs := hbs.butO h.kp fun ad e h2 => by
    have h1 := hfr ad e
    rcases h2 with h2 | h2
    · exact hq.eu _ h1 h2
    · exact hV0 _ h2 (.inl h1)
  have hc : TlC (fun k => (E k ∨ RowU g VI L xs1 k) ∧ ¬ x.O k) x.O w L :=
    ⟨⟨.inr (.inr (.inl rfl)), hLx⟩, fun k hk => by
      rcases hk.1 with h1 | h1
      · have := hq.e0 k h1; omega
      · exact h.row.lt k h1, h.row.lim x hxm, hLx⟩
  have hcap := h.cap
  have hi64 : i * 524288 ≤ 33554432 := by omega
  refine (ltell_any (fun k => (E k ∨ RowU g VI L xs1 k) ∧ ¬ x.O k) x.O L (i * 11) _ x.r V zs x.its R ℓ line w h.row.lw hLC (h.row.pq x hxm)
    (h.out.mono fun k _ hk => hk.elim (fun e => e.1) fun e => .inr (.inr (.inr (.inr ⟨x, hxm, e⟩)))) hc hB (fun ad e => ⟨⟨.inl (hfr ad e), fun e2 => hUx _ (.inr (.inr (.inr ⟨x, hxm, e2⟩))) (hfr ad e)⟩, fun e2 => hUx ad.block (.inr (.inl e2)) (hfr ad e), fun e2 => hUx _ (.inr (.inr (.inr ⟨x, hxm, e2⟩))) (hfr ad e)⟩) hq1 hinv (fun z hz => by rw [hser]; exact hq.its z hz) hln hl (by omega)).mono ?_
  rintro e w' ⟨O', V2, zs2, rfl, hE⟩
  have hrs := rowLn_set (xs1.map (·.r)) hlt (tellX line x.dat).2.a (tellX line x.dat).2.b
  rw [List.getElem_map, he1] at hrs
  have hlw : Has w' L LT (laneA (rowLn (xs1.map (·.r))).toArray (i * 11) (tellX line x.dat).2.a (tellX line x.dat).2.b) := hE.lw
  rw [hrs] at hlw
  have hVU : ∀ k, V.ownBlock = some k → ¬ RowU g VI L xs1 k := fun k hk e => h.out.off k hk (.inr e)
  obtain ⟨k1, k2⟩ := h.row.setLane (O2 := fun k => x.O k ∨ k = L ∨ V.ownBlock = some k) (w' := w') (x' := ⟨x.r.nx (tellX line x.dat).2.a (tellX line x.dat).2.b, (tellX line x.dat).2.its, O'⟩) hx1 hE.oin hE.pq (by rw [List.map_set]; exact hlw) hE.kp
    (fun k hk => by rcases hk with hk | hk | hk; exact .inr (.inl hk); exact .inl hk; exact .inr (.inr (hVU k hk)))
  refine ⟨V2, zs2, xs1.set i ⟨x.r.nx (tellX line x.dat).2.a (tellX line x.dat).2.b, (tellX line x.dat).2.its, O'⟩, rfl, k1, hE.out.mono fun k _ hk => ?_, ?_, ?_, fun k hk => ?_, h.kp.andThen hE.kp fun k hk hlt0 => ?_, ?_, ?_⟩
  · rcases hk with hk | hk
    · exact .inl ⟨.inl hk, fun e2 => hUx _ (.inr (.inr (.inr ⟨x, hxm, e2⟩))) hk⟩
    · rcases h.row.setU hx1 k hk with h3 | h3
      · exact .inr h3
      · exact .inl ⟨.inr h3.1, h3.2⟩
  · rw [List.map_set, ← hset, ← hx2]
    rfl
  · rw [hE.told, h.told, List.take_succ_eq_append_getElem hdl, List.flatMap_append, ← List.append_assoc]
    congr 1
    rw [List.getElem_map, ← hx2]
    simp only [List.flatMap_cons, List.flatMap_nil, List.append_nil]
    rfl
  · rcases k2 k hk with h3 | h3
    · exact (h.own k h3).imp id fun e => ⟨e.1, by have := hE.kp.size; omega⟩
    · exact .inr ⟨by omega, h3.2⟩
  · rcases hk with hk | hk | hk
    · rcases h.own k (.inr (.inr (.inr ⟨x, hxm, hk⟩))) with h3 | h3
      · exact .inl h3
      · omega
    · exact .inl (.inr (.inl hk))
    · rcases h.vb with h3 | ⟨j, h3, h4⟩
      · exact .inr (h3 ▸ hk)
      · rw [h3] at hk; injection hk with hk; omega
  · rcases hE.vb with h3 | ⟨j, h3, h4⟩
    · rw [h3]; exact h.vb
    · exact .inr ⟨j, h3, by omega⟩
  · have e1 := congrArg List.length hE.told
    simp only [List.length_map, List.length_append] at e1
    have e2 := tell_cap (k := x.r.k) (qnOk hq1) (fun _ => (stepQ_bd hq1).2.2.2.2) hinv hl
    simp only at e2
    omega
set_option maxRecDepth 100000 in
set_option maxHeartbeats 1000000 in
theorem rowtell_any (h : RowX w0 g VI L its xs) (hq : TeQ E w0 (RowU g VI L xs) s R ℓ xs) (hZ : OutZ (fun k => E k ∨ RowU g VI L xs k) w0 V0 zs0) (hl : ℓ ≤ line) (hx : xs.length ≤ 64) (hz : zs0.length ≤ 536870912) :
    Calls Tryz.prog 78 #[.pointer (some ⟨g, 0, none⟩), .int .i64 line, V0] w0 fun e w' => ∃ V zs xs1, e = .returned V ∧ TeR E w0 g L VI its xs line V0 zs0 xs.length V zs xs1 w' := by
  have hlen : ∀ {i V2 zs2 xs2 wx}, TeR E w0 g L VI its xs line V0 zs0 i V2 zs2 xs2 wx → xs2.length = xs.length := fun h => by
    have := congrArg List.length h.dat
    simp only [List.length_map, List.length_append, List.length_take, List.length_drop] at this
    omega
  have HLN : Hid (∀ i V2 zs2 xs2 wx, TeR E w0 g L VI its xs line V0 zs0 i V2 zs2 xs2 wx → xs2.length = xs.length) := fun _ _ _ _ _ h => hlen h
  have HP : Hid (TeR E w0 g L VI its xs line V0 zs0 0 V0 zs0 xs w0) := Lib.hid ⟨h, hZ, by simp, by simp, fun k hk => .inl hk, (below_butO (Below.refl _ _) _), .inl rfl, by omega⟩
  have HQ := Lib.hid hq
  have HC : Hid (∀ i V zs xs1 w, TeR E w0 g L VI its xs line V0 zs0 i V zs xs1 w → i < xs.length → Calls Tryz.prog 111 #[.pointer (some ⟨L, i * 11, none⟩), .int .i64 line, V] w fun e w' => ∃ V2 zs2 xs2, e = .returned V2 ∧ TeR E w0 g L VI its xs line V0 zs0 (i + 1) V2 zs2 xs2 w') :=
    fun i V zs xs1 w h hi => ter_call h hq (fun k hk => hZ.off k hk) hi hl hx hz
  have cL : w0.cell? ⟨g, 1, none⟩ = some (.slice (some ⟨L, 0, none⟩) xs.length xs.length) := h.st.cell 1
  clear hlen h hq hZ
  generalize hN : xs.length = N at cL HLN HC hx ⊢
  go_enter Tryz.func78, Tryz.ntmps78
  go_wp2_with fail
  go_loopw [2, 13] (fun u v wr => ∃ i : Nat, i ≤ N ∧ v = .int .i64 i ∧ ∃ zs2 xs2, Hid (TeR E w0 g L VI its xs line V0 zs0 i u zs2 xs2 wr)) (fun _ v _ => N - (intOf v).toNat)
  case atStart => exact ⟨0, Nat.zero_le _, rfl, zs0, xs, HP⟩
  case round =>
    obtain ⟨i, hi, rfl, zs2, xs2, HP2⟩ := hrel
    by_cases hlt : i < N
    · have hlt2 : (i : Int) < (N : Int) := by omega
      have e2 : xs2.length = N := HLN.out _ _ _ _ _ HP2.out
      have c1 : wr.cell? ⟨g, 1, none⟩ = some (.slice (some ⟨L, 0, none⟩) N N) := by
        have := HP2.out.row.st.cell 1
        rw [e2] at this
        exact this
      go_wp2_with fail
      refine (HC.out i u2 zs2 xs2 wr HP2.out hlt).mono ?_
      rintro e w4 ⟨V4, zs4, xs4, rfl, hP4⟩
      have HP4 := Lib.hid hP4
      clear hP4
      go_wp2_with fail
      go_roundw
      case rel => exact ⟨i + 1, by omega, by go_num, zs4, xs4, HP4⟩
      case measure => simp [intOf]; omega
    · obtain rfl : i = N := by omega
      go_wp2_with fail
      go_ret
      exact ⟨u2, zs2, xs2, rfl, HP2⟩
end
end Go.Proofs.YtbpaepkcchpmbaaGreat
namespace Go.Proofs.YtbpaepkcchpmbaaGreat
open Go.RowKit
theorem run_clear_it (w : World) (b o n c : Nat) (hn : 0 < n) (hc : ∀ j, j < n * 4 → (w.cell? ⟨b, o + j, none⟩).isSome = true) (hf : ∀ j, j < n * 4 → w.frozen? ⟨b, o + j, none⟩ = false) :
    ∃ zs : List Value, zs.length = n * 4 ∧ ∀ ty, (Builtin.clear_ #[38] ty #[.slice (some ⟨b, o, none⟩) n c]).run Tryz.prog w = .ok (.tuple #[]) (w.setCells b o zs) := by
  obtain ⟨zs, hzs⟩ : ∃ zs, zs = (Builtin.zeroCells #[Value.int .i64 0, .int .i64 0, .int .i64 0, .int .i64 0] n).toList := ⟨_, rfl⟩
  have hl : zs.length = n * 4 := by rw [hzs]; simp [Builtin.zeroCells]
  have h1 : ∀ v ∈ zs, v.oneCell' = true := fun v hv => by
    rw [hzs] at hv
    simp only [Builtin.zeroCells, Array.toList_map, List.mem_map] at hv
    obtain ⟨i, _, rfl⟩ := hv
    have : i % 4 = 0 ∨ i % 4 = 1 ∨ i % 4 = 2 ∨ i % 4 = 3 := by omega
    rcases this with e | e | e | e <;> simp [e, Value.oneCell']
  have hst := run_storeCells_cells (P := Tryz.prog) b o zs 0 w (by rw [hl]; simpa using hc) (by rw [hl]; simpa using hf) h1
  simp only [Nat.add_zero] at hst
  refine ⟨zs, hl, fun ty => ?_⟩
  obtain ⟨m, rfl⟩ : ∃ m, n = m + 1 := ⟨n - 1, by omega⟩
  have hz : ∀ w, (zeroValue 61).run Tryz.prog w = .ok (.agg #[.int .i64 0, .int .i64 0, .int .i64 0, .int .i64 0]) w := fun w => by kernel_rfl
  have hu : Tryz.prog.underlying 38 = some (.slice 61) := by kernel_rfl
  simp [Builtin.clear_, run_underlying hu, hz, Value.cells, ← hzs, hst]
theorem own_moved {w : World} {b n c k : Nat} {its : List It} {cur : Array Value} (hw : Has w b 61 cur) (hs : cur.size = c * 4) (hk : k ≤ n) (hn : its.length = n) (hc : n ≤ c) (hm : c ≤ maxLen)
    (h : ∀ j, j < (n - k) * 4 → cur[j]? = ((its.drop k).flatMap itemL)[j]?) : OwnIt w 0 (.slice (some ⟨b, 0, none⟩) (n - k) c) (its.drop k) := by
  have hl : ((its.drop k).flatMap itemL).length = (n - k) * 4 := by rw [flat_len, List.length_drop, hn]
  refine own_mk (Nat.zero_le _) (by rw [List.length_drop, hn]) (by omega) hm hw hs (List.ext_getElem? fun j => ?_)
  by_cases hj : j < (n - k) * 4
  · rw [List.getElem?_take_of_lt hj, Array.getElem?_toList]; exact h j hj
  · rw [List.getElem?_eq_none (by rw [List.length_take]; omega), List.getElem?_eq_none (by omega)]
set_option maxRecDepth 1000000 in
set_option maxHeartbeats 2000000 in
theorem idel_any (b n c k : Nat) (its : List It) (w : World) (h : OwnIt w 0 (.slice (some ⟨b, 0, none⟩) n c) its) (hk : k ≤ n) (hn8 : n ≤ 8192) :
    Calls Tryz.prog 113 #[.slice (some ⟨b, 0, none⟩) n c, .int .i64 0, .int .i64 (k : Nat)] w fun e w' => e = .returned (.slice (some ⟨b, 0, none⟩) (n - k : Nat) c) ∧ OwnIt w' 0 (.slice (some ⟨b, 0, none⟩) (n - k : Nat) c) (its.drop k) ∧ ButS [b] w w' := by
  obtain ⟨hl, _, hnc, hcm, cur, hh, hs, ht⟩ := h.blk
  have hcm2 : c ≤ 9223372036854775807 := by unfold maxLen at hcm; omega
  by_cases h0 : k = 0
  · subst h0
    have HO := Lib.hid h
    clear h
    have hkc : 0 ≤ c := Nat.zero_le _
    go_enter Tryz.func113, Tryz.ntmps113
    go_wp2_with fail
    go_ret
    exact ⟨rfl, by simpa using HO.out, ButS.refl _ _⟩
  · obtain ⟨news, hnews⟩ : ∃ news, news = (its.drop k).flatMap itemL := ⟨_, rfl⟩
    have hlen : news.length = (n - k) * 4 := by rw [hnews, flat_len, List.length_drop, hl]
    have hcell : ∀ j u, news[j]? = some u → cur[k * 4 + j]? = some u := fun j u hu => by
      have hj : j < (n - k) * 4 := by have := (List.getElem?_eq_some_iff.1 hu).1; omega
      have e1 : cur[k * 4 + j]? = (its.flatMap itemL)[k * 4 + j]? := by
        rw [← ht, List.getElem?_take_of_lt (by omega), Array.getElem?_toList]
      rw [e1, ← hu, hnews]
      have e2 : its.flatMap itemL = (its.take k).flatMap itemL ++ (its.drop k).flatMap itemL := by rw [← List.flatMap_append, List.take_append_drop]
      have e3 : ((its.take k).flatMap itemL).length = k * 4 := by rw [flat_len, List.length_take, hl, Nat.min_eq_left hk]
      rw [e2, List.getElem?_append_right (by omega), e3]
      congr 1; omega
    obtain ⟨A, hA, hsrc⟩ : ∃ A : Addr, (if c = k then (some ⟨b, 0, none⟩ : Option Addr) else some ⟨b, k * 4, none⟩) = some A ∧ Hid (∀ t u, news[t]? = some u → w.drew.cell? (A.add t) = some u) := by
      by_cases hck : c = k
      · refine ⟨⟨b, 0, none⟩, by simp [hck], fun t u hu => ?_⟩
        have h1 : news.length = 0 := by rw [hlen]; omega
        rw [List.length_eq_zero_iff.1 h1] at hu
        simp at hu
      · refine ⟨⟨b, k * 4, none⟩, by simp [hck], fun t u hu => ?_⟩
        rw [Addr.add_mid, (hh.drew).cell]
        exact hcell t u hu
    have s2 : Hid (∀ u ∈ news, u.oneCell' = true) := fun u hu => by
      rw [hnews] at hu
      obtain ⟨z, _, hz⟩ := List.mem_flatMap.1 hu
      simp [itemL] at hz
      rcases hz with rfl | rfl | rfl | rfl <;> rfl
    have s3 : Hid (∀ j, j < news.length → (w.drew.cell? ⟨b, 0 + 0 * 4 + j, none⟩).isSome = true ∧ w.drew.frozen? ⟨b, 0 + 0 * 4 + j, none⟩ = false) := fun j hj => by
      refine ⟨?_, (hh.drew).mark _⟩
      rw [(hh.drew).cell, Array.getElem?_eq_getElem (by omega)]; rfl
    obtain ⟨i0, hi, hz, hs0, hy0⟩ := info_parts Tryz.infoItem
    obtain ⟨W1, hW1⟩ : ∃ W1, W1 = w.drew.setCells b (0 + 0 * 4) news := ⟨_, rfl⟩
    obtain ⟨cur1, q1, q2, q3, q4⟩ := has_sets hh.drew news (0 + 0 * 4) (by omega)
    rw [← hW1] at q1
    obtain ⟨zs, z1, z2⟩ := run_clear_it W1 b ((n - k) * 4) (n - (n - k)) (c - (n - k)) (by omega) (fun j hj => by rw [q1.cell, Array.getElem?_eq_getElem (by omega)]; rfl) (fun j hj => q1.mark _)
    obtain ⟨cur2, u1, u2, u3, _⟩ := has_sets q1 zs ((n - k) * 4) (by omega)
    have HE : Hid (OwnIt (W1.setCells b ((n - k) * 4) zs) 0 (.slice (some ⟨b, 0, none⟩) (n - k) c) (its.drop k) ∧ ButS [b] w (W1.setCells b ((n - k) * 4) zs)) := by
      refine ⟨own_moved u1 (by omega) hk hl hnc hcm fun j hj => ?_, ?_⟩
      · rw [u3 j (.inl hj)]
        have := q4 j (by omega)
        simp only [Nat.zero_mul, Nat.zero_add] at this
        rw [this, hnews]
      · have e1 : ButS [b] w W1 := by rw [hW1]; exact (below_butS (Below.drew (Below.refl _ _)) [b]).trans (setCells_butS b news _ _)
        exact e1.trans (setCells_butS b zs _ _)
    have hW : Hid (W1 = w.drew.setCells b (0 + 0 * 4) news) := hW1
    have hkc : k ≤ c := by omega
    have hmc : n - k ≤ c := by omega
    have hmn : n - k ≤ n := by omega
    have hsl : ∀ k : Nat, 0 + k * 4 = k * 4 := fun k => by omega
    have s1 : Hid (news.length = (n - k) * 4) := hlen
    have hm0 : ¬ c = n - k := by omega
    clear u1 u2 u3 q1 q2 q3 q4 z1 hh hs ht hcell hlen hnews h
    clear hW1
    go_enter Tryz.func113, Tryz.ntmps113
    go_wp2_with fail
    go_region_law (refine step_append_room rfl (.tmp 22) (.tmp 25) 38 rfl 61 i0 4 Tryz.underlying38 hi hs0 b 0 0 c (by simp [Act.eval, Act.put]) A (n - k) (c - k) news (by simp [Act.eval, Act.put]) s1.out hsrc.out s2.out (by omega) s3.out ?_; rw [← hW.out])
    go_wp2_with fail
    go_ret
    exact ⟨rfl, HE.out.1, HE.out.2⟩
end Go.Proofs.YtbpaepkcchpmbaaGreat
namespace Go.Proofs.YtbpaepkcchpmbaaGreat
open Go.RowKit
def mostTo (xs : List LX) (i : Nat) : Nat := ((xs.take i).map (·.its.length)).foldl max 0
theorem mostTo_zero (xs : List LX) : mostTo xs 0 = 0 := rfl
theorem mostTo_succ {xs : List LX} {i : Nat} {x : LX} (h : xs[i]? = some x) : mostTo xs (i + 1) = max (mostTo xs i) x.its.length := by
  have hlt := (List.getElem?_eq_some_iff.1 h).1
  have he := (List.getElem?_eq_some_iff.1 h).2
  unfold mostTo
  rw [List.take_succ_eq_append_getElem hlt, List.map_append, List.foldl_append, he]; rfl
theorem load_lane {ops : Array Oper} {rest : List Oper} {op : Oper} {a : Act} {w : World} {Q : Exit → Act → World → Prop} (hgd : op.guard = none) (x : Operand) (ho : op.op = .load 173 x) (L o : Nat) (hx : a.eval x = .pointer (some ⟨L, o, none⟩))
    {t : TypeId} {cur : Array Value} {r : Lr} (hw : Has w L t cur) (hc : LnC cur o r)
    (h : wpList Tryz.prog ops Q rest (a.put op.dst (.agg (laneC r))) w) : wpList Tryz.prog ops Q (op :: rest) a w :=
  wpList_load_mid hgd 173 x ho L o hx (laneL r) _ (fun j v hv => by
    have hj : j < 11 := (List.getElem?_eq_some_iff.1 hv).1
    rw [hw.cell, hc.at_ j hj]; exact hv) Tryz.underlying173 rfl Tryz.sizeLane h
theorem store_laneN {ops : Array Oper} {rest : List Oper} {op : Oper} {a : Act} {w : World} {Q : Exit → Act → World → Prop} (hgd : op.guard = none) (x y : Operand) (ho : op.op = .store 173 x y)
    {r : Lr} {old : Array Value} (hx : a.eval x = .pointer (some ⟨w.heap.size, 0, none⟩)) (hy : a.eval y = .agg (laneC r)) (hold : old.size = 11)
    (h : ∀ w', Below w.heap.size w w' → Has w' w.heap.size LT (laneC r) → wpList Tryz.prog ops Q rest (a.put op.dst undef) w') : wpList Tryz.prog ops Q (op :: rest) a (w.alloc (.cells old LT)) :=
  store_lane hgd x y ho w.heap.size hx hy (Has.made _ _ _) hold (by rw [World.setRow_alloc_new]; exact h _ ((Below.refl _ _).alloc (Nat.le_refl _) _) (Has.made _ _ _))
set_option maxRecDepth 100000 in
set_option maxHeartbeats 1000000 in
theorem settle_any (g L b c : Nat) (its : List It) (xs : List LX) (w : World) (h : RowX w g (.slice (some ⟨b, 0, none⟩) its.length c) L its xs) (hn : its.length ≤ 8192) (hx : xs.length ≤ 64) (hm : ∀ x, x ∈ xs → x.its.length ≤ its.length) :
    Calls Tryz.prog 79 #[.pointer (some ⟨g, 0, none⟩)] w fun e w' => e = .returned (.int .i64 (its.length - mostTo xs xs.length : Nat)) ∧ RowX w' g (.slice (some ⟨b, 0, none⟩) (its.length - (its.length - mostTo xs xs.length) : Nat) c) L (its.drop (its.length - mostTo xs xs.length)) xs ∧
      (∀ k, RowU g (.slice (some ⟨b, 0, none⟩) (its.length - (its.length - mostTo xs xs.length) : Nat) c) L xs k ↔ RowU g (.slice (some ⟨b, 0, none⟩) its.length c) L xs k) ∧ ButO (RowU g (.slice (some ⟨b, 0, none⟩) its.length c) L xs) w w' := by
  have hmost : ∀ i, i ≤ xs.length → mostTo xs i ≤ its.length := fun i => by
    induction i with
    | zero => intro _; rw [mostTo_zero]; omega
    | succ i ih =>
      intro hi
      rw [mostTo_succ (List.getElem?_eq_getElem (show i < xs.length by omega))]
      have := ih (by omega)
      have := hm _ (List.getElem_mem (show i < xs.length by omega))
      omega
  have HR := Lib.hid h
  have HMO := Lib.hid hmost
  have HMS : Hid (∀ i (hi : i < xs.length), mostTo xs (i + 1) = max (mostTo xs i) (xs[i]).its.length) := fun i hi => mostTo_succ (List.getElem?_eq_getElem hi)
  have HLEN : Hid (∀ i (hi : i < xs.length) w', Below w.heap.size w w' → Calls Tryz.prog 112 #[.pointer (some ⟨(xs[i]).r.g, 0, none⟩)] w' fun e w2 => e = .returned (.int .i64 ((xs[i]).its.length : Nat)) ∧ ∃ k, w2 = w'.drewN k) := fun i hi w' hb => by
    have h1 := ((h.below hb).pq _ (List.getElem_mem hi)).len (by have := hm _ (List.getElem_mem hi); simp [ones]; omega)
    have e : (ones (xs[i]).r.q.bs (xs[i]).its).length = (xs[i]).its.length := by simp [ones]
    rw [e] at h1
    exact h1
  have cL : w.cell? ⟨g, 1, none⟩ = some (.slice (some ⟨L, 0, none⟩) xs.length xs.length) := h.st.cell 1
  have HLC : Hid (∀ i (hi : i < xs.length), LnC (rowLn (xs.map (·.r))).toArray (i * 11) (xs[i]).r) := fun i hi => by
    have := rowLn_lane (xs.map (·.r)) (i := i) (by simpa using hi)
    rw [List.getElem_map] at this
    exact this
  clear h hmost hm
  go_enter Tryz.func79, Tryz.ntmps79
  go_wp2_with fail
  go_loopw [3, 12] (fun u v wr => ∃ i : Nat, i ≤ xs.length ∧ v = .int .i64 i ∧ u = .int .i64 (mostTo xs i : Nat) ∧ Hid (Below w.heap.size w wr)) (fun _ v _ => xs.length - (intOf v).toNat)
  case atStart => exact ⟨0, Nat.zero_le _, rfl, rfl, Lib.hid (Below.refl _ _)⟩
  case round =>
    obtain ⟨i, hi, rfl, rfl, HB⟩ := hrel
    by_cases hlt : i < xs.length
    · have hlt2 : (i : Int) < (xs.length : Int) := by omega
      have HRW := Lib.hid ((HR.out.below HB.out).lw)
      go_wp2_with (first | (refine load_lane rfl _ rfl L (i * 11) rfl HRW.out (HLC.out i hlt) ?_) | (refine store_laneN rfl _ _ rfl (r := (xs[i]).r) rfl rfl rfl ?_; intro w5 b5 h5; have c58 : w5.cell? ⟨wr.heap.size, 8, none⟩ = some (.pointer (some ⟨(xs[i]).r.g, 0, none⟩)) := h5.cell 8))
      refine (HLEN.out i hlt w5 (HB.out.trans (b5.mono HB.out.size))).mono ?_
      rintro e w6 ⟨rfl, k6, rfl⟩
      have HB6 := Lib.hid (below_drewN (HB.out.trans (b5.mono HB.out.size)) k6)
      clear b5 h5 c58
      have hms := HMS.out i hlt
      go_wp2_with fail
      go_roundw
      case rel => exact ⟨i + 1, by omega, by go_num, by rw [hms]; congr 1; omega, HB6⟩
      case measure => simp [intOf]; omega
    · obtain rfl : i = xs.length := by omega
      have hr := HR.out.below HB.out
      have c0 : wr.cell? ⟨g, 0, none⟩ = some (.slice (some ⟨b, 0, none⟩) its.length c) := hr.st.cell 0
      have hk : mostTo xs xs.length ≤ its.length := HMO.out _ (Nat.le_refl _)
      have HDEL := Lib.hid (idel_any b its.length c (its.length - mostTo xs xs.length) its wr hr.iv (by omega) hn)
      have HRR := Lib.hid hr
      clear hr
      have hsub : ((its.length : Int) - (mostTo xs xs.length : Nat)) = ((its.length - mostTo xs xs.length : Nat) : Int) := by omega
      generalize hM : mostTo xs xs.length = M at hk HDEL hsub
      go_wp2_with fail
      refine HDEL.out.mono ?_
      rintro e w7 ⟨rfl, ho7, b7⟩
      have hgb : g ∉ [b] := fun e => by
        simp at e
        obtain ⟨q, hq⟩ := ownIt_has HRR.out.iv (show _ = some b from rfl)
        exact has_types (e ▸ hq) HRR.out.st (by decide)
      have HG7 := Lib.hid (HRR.out.st.butS b7 hgb)
      have HO7 := Lib.hid ho7
      have HB7 := Lib.hid b7
      clear ho7 b7 HDEL
      have c70 := HG7.out.cell 0
      have f70 := HG7.out.mark 0
      simp only [List.getElem?_toArray, List.getElem?_cons_zero] at c70
      go_wp2_with fail
      go_ret
      have hbb : ∀ n, (Value.slice (some ⟨b, 0, none⟩) n c).ownBlock = some b := fun _ => rfl
      have hB8 : ButS [g] w7 (w7.setCell ⟨g, 0, none⟩ (.slice (some ⟨b, 0, none⟩) (its.length - (its.length - M) : Nat) c)) := setCell_butS1 _ _ _ _
      have hO8 : OwnIt (w7.setCell ⟨g, 0, none⟩ (.slice (some ⟨b, 0, none⟩) (its.length - (its.length - M) : Nat) c)) 0 (.slice (some ⟨b, 0, none⟩) (its.length - (its.length - M) : Nat) c) (its.drop (its.length - M)) := HO7.out.same fun k e => by
        obtain ⟨q, hq⟩ := ownIt_has HO7.out e
        exact hB8.other k hq.lt fun e2 => by simp at e2; exact has_types (e2 ▸ hq) HG7.out (by decide)
      have hbut : ButO (fun k => k = g ∨ (Value.slice (some ⟨b, 0, none⟩) its.length c).ownBlock = some k) wr (w7.setCell ⟨g, 0, none⟩ (.slice (some ⟨b, 0, none⟩) (its.length - (its.length - M) : Nat) c)) :=
        (butS_butO HB7.out fun k hk => by simp at hk; exact .inr (by rw [hbb, hk])).andThen (butS_butO hB8 (O := fun k => k = g) fun k hk => by simpa using hk) fun k e _ => .inl e
      obtain ⟨hr9, _⟩ := HRR.out.setV (HG7.out.put 0 _) hO8 hbut fun k e => .inl e
      rw [hM]
      refine ⟨rfl, hr9, fun k => by unfold RowU; rw [hbb, hbb], (below_butO HB.out _).andThen hbut fun k hk _ => ?_⟩
      rcases hk with hk | hk
      · exact .inl hk
      · exact .inr (.inr (.inl hk))
end Go.Proofs.YtbpaepkcchpmbaaGreat

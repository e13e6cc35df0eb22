import Derived.Test.YtbpaepkcchpmbaaGreatG37
import Derived.Laws.AppendOwnNone
import Derived.Test.YtbpaepkcchpmbaaGreatG30
namespace Go.Proofs.YtbpaepkcchpmbaaGreat
open Go.RowKit
structure Rq where
  q : Qu
  B : Option Addr
  m : Nat
  d : Nat
def rowQ (rs : List Rq) : List Value := rs.flatMap fun r => (quC r.q r.B r.m r.d).toList
theorem rowQ_cons (p : Rq) (r : List Rq) : rowQ (p :: r) = (quC p.q p.B p.m p.d).toList ++ rowQ r := rfl
theorem rowQ_len (rs : List Rq) : (rowQ rs).length = rs.length * 6 := by
  induction rs with
  | nil => rfl
  | cons p r ih => rw [rowQ_cons, List.length_append, ih, quC_6, List.length_cons]; omega
theorem rowQ_at (rs : List Rq) {i j : Nat} (hi : i < rs.length) (hj : j < 6) : (rowQ rs)[i * 6 + j]? = (quC (rs[i]).q (rs[i]).B (rs[i]).m (rs[i]).d).toList[j]? := by
  induction rs generalizing i with
  | nil => simp at hi
  | cons p r ih =>
    rw [rowQ_cons]
    cases i with
    | zero => rw [List.getElem?_append_left (by rw [quC_6]; omega)]; simp
    | succ i =>
      rw [List.getElem?_append_right (by rw [quC_6]; omega), quC_6, show (i + 1) * 6 + j - 6 = i * 6 + j by omega, ih (by simpa using hi)]
      simp
structure OwnQ (w : World) (base : Nat) (v : Value) (rs : List Rq) : Prop where
  row : w.ownsRow base 59 6 v rs.length (rowQ rs)
  bnd : ∀ r, r ∈ rs → OwnI w 0 (.slice r.B r.m r.d) r.q.bs
theorem Tryz.qinfo : (Tryz.prog.info? 59).map (fun i => (i.zero, i.size, i.bytes)) = some (some (.agg (quC ⟨0, 0, 0, 0, [], 0⟩ none 0 0)), 6, 64) := by kernel_rfl
theorem qinfo_parts : ∃ i, Tryz.prog.info? 59 = some i ∧ i.zero = some (.agg (quC ⟨0, 0, 0, 0, [], 0⟩ none 0 0)) ∧ i.size = 6 ∧ i.bytes = 64 := by
  have h := Tryz.qinfo
  cases hi : Tryz.prog.info? 59 with
  | none => rw [hi] at h; simp at h
  | some i =>
    rw [hi] at h
    simp only [Option.map_some, Option.some.injEq, Prod.mk.injEq] at h
    exact ⟨i, rfl, h.1, h.2.1, h.2.2⟩
section
variable {ops : Array Oper} {rest : List Oper} {op : Oper} {p : Act} {w : World} {Q : Exit → Act → World → Prop}
end
end Go.Proofs.YtbpaepkcchpmbaaGreat
namespace Go.Proofs.YtbpaepkcchpmbaaGreat
open Go.RowKit
theorem rowQ_put (rs : List Rq) {i : Nat} (hi : i < rs.length) (B : Option Addr) (m d : Nat) : (rowQ rs).set (i * 6 + 4) (.slice B m d) = rowQ (rs.set i ⟨(rs[i]).q, B, m, d⟩) := by
  induction rs generalizing i with
  | nil => simp at hi
  | cons p r ih =>
    cases i with
    | zero => rfl
    | succ i =>
      rw [rowQ_cons, List.set_append_right _ _ (by rw [quC_6]; omega), quC_6, show (i + 1) * 6 + 4 - 6 = i * 6 + 4 by omega, ih (by simpa using hi)]
      rfl
def RowQ (w : World) (b n c : Nat) (rs : List Rq) : Prop := rs.length = n ∧ n ≤ c ∧ c ≤ maxLen ∧ ∃ cur, Has w b 59 cur ∧ cur.size = c * 6 ∧ cur.toList.take (n * 6) = rowQ rs
section
variable {w w' : World} {b n c : Nat} {rs : List Rq}
theorem RowQ.of {base : Nat} {V : Value} (h : w.ownsRow base 59 6 V rs.length (rowQ rs)) (hn : 0 < rs.length) : ∃ b c, V = .slice (some ⟨b, 0, none⟩) rs.length c ∧ base ≤ b ∧ RowQ w b rs.length c rs := by
  rcases h.2 with ⟨_, h0⟩ | ⟨g, cap, cur, e, hg, hh, h3, h4, h5, h6⟩
  · omega
  · exact ⟨g, cap, e, hg, rfl, h3, h4, cur, hh, h5, h6⟩
theorem RowQ.below (h : RowQ w b n c rs) (hb : Below w.heap.size w w') : RowQ w' b n c rs := by
  obtain ⟨h1, h2, h3, cur, h4, h5⟩ := h
  exact ⟨h1, h2, h3, cur, h4.below hb h4.lt, h5⟩
theorem RowQ.at_ (h : RowQ w b n c rs) {i : Nat} (hi : i < rs.length) {j : Nat} (hj : j < 6) : w.cell? ⟨b, i * 6 + j, none⟩ = (quC (rs[i]).q (rs[i]).B (rs[i]).m (rs[i]).d).toList[j]? := by
  obtain ⟨h1, h2, h3, cur, h4, h5, h6⟩ := h
  rw [h4.cell, ← rowQ_at rs hi hj, ← h6, List.getElem?_take, if_pos (by omega)]
  simp
theorem RowQ.mark (h : RowQ w b n c rs) (k : Nat) : w.frozen? ⟨b, k, none⟩ = false := by
  obtain ⟨h1, h2, h3, cur, h4, h5⟩ := h
  exact h4.mark _
theorem RowQ.lt (h : RowQ w b n c rs) : b < w.heap.size := by
  obtain ⟨h1, h2, h3, cur, h4, h5⟩ := h
  exact h4.lt
theorem RowQ.put (h : RowQ w b n c rs) {i : Nat} (hi : i < rs.length) (B : Option Addr) (m d : Nat) : RowQ (w.setCell ⟨b, i * 6 + 4, none⟩ (.slice B m d)) b n c (rs.set i ⟨(rs[i]).q, B, m, d⟩) := by
  obtain ⟨h1, h2, h3, cur, h4, h5, h6⟩ := h
  refine ⟨by simpa using h1, h2, h3, _, h4.put _ _, by simpa using h5, ?_⟩
  rw [← rowQ_put rs hi, ← h6, Array.toList_setIfInBounds, List.take_set]
theorem RowQ.has (h : RowQ w b n c rs) : ∃ cur, Has w b 59 cur := by
  obtain ⟨h1, h2, h3, cur, h4, h5⟩ := h
  exact ⟨cur, h4⟩
end
theorem qu_empty (w : World) : (w.alloc (.cells #[] 59)).ownsRow w.heap.size 59 6 (.slice (some ⟨w.heap.size, 0, none⟩) 0 0) 0 [] :=
  ⟨rfl, Or.inr ⟨w.heap.size, 0, #[], rfl, Nat.le_refl _, Has.made w 59 #[], Nat.le_refl _, Nat.zero_le _, rfl, rfl⟩⟩
theorem qus_row {w : World} {b o n : Nat} {qs : List Qu} (hl : qs.length = n) (hi : ∀ i, i < n → ∃ B m d, QuAt w b (o + i * 6) (nthQ qs i) B m d ∧ (B = none → d = 0) ∧ m * 8 ≤ 140737488351232) :
    ∃ rs : List Rq, rs.map (·.q) = qs ∧ ∀ i (h : i < rs.length), QuAt w b (o + i * 6) (rs[i]).q (rs[i]).B (rs[i]).m (rs[i]).d ∧ ((rs[i]).B = none → (rs[i]).d = 0) ∧ (rs[i]).m * 8 ≤ 140737488351232 := by
  induction qs generalizing o n with
  | nil => exact ⟨[], rfl, fun i h => by simp at h⟩
  | cons q r ih =>
    have hn : n = r.length + 1 := by rw [← hl]; rfl
    obtain ⟨B, m, d, h1, h2, h3⟩ := hi 0 (by omega)
    obtain ⟨rs, e, hr⟩ := ih (o := o + 6) (n := r.length) rfl (fun i h => by
      obtain ⟨B, m, d, g1, g2⟩ := hi (i + 1) (by omega)
      refine ⟨B, m, d, ?_, g2⟩
      have e1 : nthQ (q :: r) (i + 1) = nthQ r i := by simp [nthQ]
      rw [e1, show o + (i + 1) * 6 = o + 6 + i * 6 by omega] at g1
      exact g1)
    refine ⟨⟨q, B, m, d⟩ :: rs, by simp [e], fun i h => ?_⟩
    cases i with
    | zero => exact ⟨by simpa [nthQ] using h1, h2, h3⟩
    | succ i =>
      have := hr i (by simpa using h)
      simpa [show o + (i + 1) * 6 = o + 6 + i * 6 by omega] using this
section
variable {ops : Array Oper} {rest : List Oper} {op : Oper} {p : Act} {w : World} {Q : Exit → Act → World → Prop}
set_option maxRecDepth 100000 in
theorem app_qus (hgd : op.guard = none) (s x : Operand)
    (ho : op.op = .call { callee := .builtin .append, args := #[s, x], argTypes := #[22, 22] })
    {base b o n c : Nat} {v : Value} {rs : List Rq} (hs : p.eval s = v) (hown : w.ownsRow base 59 6 v 0 []) (hx : p.eval x = .slice (some ⟨b, o, none⟩) n c) (hl : rs.length = n)
    (hc : ∀ i (h : i < rs.length), w.rangeAt b (o + i * 6) (quC (rs[i]).q (rs[i]).B (rs[i]).m (rs[i]).d).toList) (hn : n * 64 ≤ 140737488351232) (hbase : base ≤ w.heap.size)
    (h : ∀ v' w', w'.ownsRow base 59 6 v' rs.length (rowQ rs) → Below base w w' → wpList Tryz.prog ops Q rest (p.put op.dst v') w') : wpList Tryz.prog ops Q (op :: rest) p w := by
  obtain ⟨i0, hi, hz, hs0, hy0⟩ := qinfo_parts
  refine wpList_append_own w hgd s x 22 ho base 59 i0 _ 6 64 Tryz.underlying22 hi hz hs0 hy0 rfl (by omega) v 0 [] hs hown ⟨b, o, none⟩ n c (rowQ rs) hx (by rw [rowQ_len, hl])
    (fun j u hu => ?_) (fun u hu => ?_) (by unfold maxLen; omega) (by omega) hbase (fun v' w' h1 h2 _ => ?_)
  · have hj : j < rs.length * 6 := by have := (List.getElem?_eq_some_iff.1 hu).1; rwa [rowQ_len] at this
    have e : j = j / 6 * 6 + j % 6 := by omega
    have hq : j / 6 < rs.length := by omega
    rw [e, rowQ_at rs hq (by omega)] at hu
    have := hc (j / 6) hq (j % 6) u hu
    rw [Addr.add_mid]
    rw [show o + j = o + j / 6 * 6 + j % 6 by omega]
    exact this
  · obtain ⟨r, hr, hu⟩ := List.mem_flatMap.1 hu
    have := quC_one r.q r.B r.m r.d
    rw [Array.all_eq_true_iff_forall_mem] at this
    exact this u (by simpa using hu)
  · refine h v' w' (by rw [hl]; simpa using h1) ⟨h2.os, h2.tape, h2.output, h2.size, fun k hk => h2.block k (by omega) (fun e => ?_)⟩
    rcases hown.2 with ⟨ev, _⟩ | ⟨g', cap', cur', ev, hg', _⟩
    · rw [ev] at e; cases e
    · rw [ev] at e
      injection e with e
      have e2 : k = g' := e
      omega
end
set_option maxRecDepth 100000 in
set_option maxHeartbeats 1000000 in
theorem qclone_any {b o n c : Nat} {rs : List Rq} {w : World} (hl : rs.length = n) (hc : ∀ i (h : i < rs.length), w.rangeAt b (o + i * 6) (quC (rs[i]).q (rs[i]).B (rs[i]).m (rs[i]).d).toList) (hn : n ≤ 64) (h0 : 0 < n) :
    Calls Tryz.prog 98 #[.slice (some ⟨b, o, none⟩) n c] w fun e w' => ∃ b' c', e = .returned (.slice (some ⟨b', 0, none⟩) n c') ∧ w.heap.size ≤ b' ∧ RowQ w' b' n c' rs ∧ Below w.heap.size w w' := by
  have hnil : ∀ W, (binOp .eql 22 (.slice (some ⟨b, o, none⟩) n c) (.slice none 0 0)).run Tryz.prog W = .ok (.bool false) W := fun W => Lib.run_eql_slice_nil (w := W) (h := Tryz.underlying22) ..
  have HC : Hid (∀ i (h : i < rs.length), (w.alloc (.cells #[] 59)).rangeAt b (o + i * 6) (quC (rs[i]).q (rs[i]).B (rs[i]).m (rs[i]).d).toList) := fun i h => rangeAt_keep (hc i h) (by rw [quC_6]; omega) fun _ hp => ((Below.refl _ _).alloc (Nat.le_refl _) _).cell hp
  go_enter Tryz.func98, Tryz.ntmps98
  go_wp2_with (refine app_qus rfl _ _ rfl rfl (qu_empty w) rfl hl HC.out (by omega) (by simp) ?_; intro v2 wn hwn hbn)
  obtain ⟨b', c', rfl, hb', hrow⟩ := RowQ.of hwn (by omega)
  have hB : Below w.heap.size w wn := ((Below.refl _ _).alloc (Nat.le_refl _) _).trans hbn
  subst hl
  go_ret
  exact ⟨b', c', rfl, hb', hrow, hB⟩
structure CpQ (w0 : World) (b c : Nat) (rs0 : List Rq) (j : Nat) (wr : World) : Prop where
  news : ∃ ns : List Rq, ns.length = j ∧ ns.map (·.q) = (rs0.take j).map (·.q) ∧ (∀ r ∈ ns, OwnI wr w0.heap.size (.slice r.B r.m r.d) r.q.bs) ∧ RowQ wr b rs0.length c (ns ++ rs0.drop j)
  keep : Below w0.heap.size w0 wr
theorem CpQ.on {w0 wr w2 : World} {b c j : Nat} {rs0 : List Rq} (hb : w0.heap.size ≤ b) (h : CpQ w0 b c rs0 j wr) (hj : j < rs0.length) (h2 : Below wr.heap.size wr w2) {A : Option Addr} {m d : Nat} (ho : OwnI w2 wr.heap.size (.slice A m d) (rs0[j]).q.bs) :
    CpQ w0 b c rs0 (j + 1) (w2.setCell ⟨b, j * 6 + 4, none⟩ (.slice A m d)) := by
  obtain ⟨⟨ns, n1, n2, n3, n4⟩, hk⟩ := h
  have r2 := n4.below h2
  have hlen : j < (ns ++ rs0.drop j).length := by simp; omega
  have hget : (ns ++ rs0.drop j)[j] = rs0[j] := by
    rw [List.getElem_append_right (by omega)]
    simp [n1]
  have r3 := r2.put hlen A m d
  obtain ⟨cur, hq⟩ := r2.has
  rw [hget] at r3
  have e : (ns ++ rs0.drop j).set j ⟨(rs0[j]).q, A, m, d⟩ = (ns ++ [⟨(rs0[j]).q, A, m, d⟩]) ++ rs0.drop (j + 1) := by
    rw [List.set_append_right _ _ (by omega), n1, Nat.sub_self, List.drop_eq_getElem_cons hj, List.set_cons_zero, List.append_assoc]
    rfl
  rw [e] at r3
  have hs := hk.size
  refine ⟨⟨_, by simp [n1], ?_, fun r hr => ?_, r3⟩, (hk.trans (h2.mono hs)).setCell hb _⟩
  · rw [List.take_succ_eq_append_getElem hj, List.map_append, List.map_append, n2]
    rfl
  · rcases List.mem_append.1 hr with h | h
    · exact ((n3 r h).below h2).set hq (by decide) _ _
    · obtain rfl := List.mem_singleton.1 h
      exact (ho.mono hs).set hq (by decide) _ _
set_option maxRecDepth 100000 in
set_option maxHeartbeats 2000000 in
theorem copied_any {A : Option Addr} {n c : Nat} {qs : List Qu} {w : World} (hq : QusR w A n qs) (hn : n ≤ 64) (h0 : 0 < n) :
    Calls Tryz.prog 67 #[.slice A n c] w fun e w' => ∃ b' c' rs, e = .returned (.slice (some ⟨b', 0, none⟩) n c') ∧ rs.map (·.q) = qs ∧ w.heap.size ≤ b' ∧ RowQ w' b' n c' rs ∧ (∀ r ∈ rs, OwnI w' w.heap.size (.slice r.B r.m r.d) r.q.bs) ∧ Below w.heap.size w w' := by
  obtain ⟨hl, hq2⟩ := hq
  obtain ⟨b, o, rfl, hi⟩ := hq2 h0
  obtain ⟨rs0, hm, hr⟩ := qus_row hl hi
  have hlen : rs0.length = n := by rw [← hl, ← hm, List.length_map]
  subst hlen
  have HR : Hid (∀ w', Below w.heap.size w w' → ∀ i (h : i < rs0.length), QuAt w' b (o + i * 6) (rs0[i]).q (rs0[i]).B (rs0[i]).m (rs0[i]).d) := fun w' hb i h => (hr i h).1.below hb
  have HM : Hid (∀ i (h : i < rs0.length), ((rs0[i]).B = none → (rs0[i]).d = 0) ∧ (rs0[i]).m * 8 ≤ 140737488351232) := fun i h => (hr i h).2
  have HC := Lib.hid (qclone_any (w := w) (b := b) (o := o) (c := c) (rs := rs0) rfl (fun i h => (hr i h).1.1) hn h0)
  have HQ := Lib.hid hm
  clear hr hi hq2 hm hl
  go_enter Tryz.func67, Tryz.ntmps67
  go_wp2_with fail
  refine HC.out.mono ?_
  rintro e w1 ⟨b', c', rfl, hb', hrow, hb1⟩
  have HS : Hid (CpQ w b' c' rs0 0 w1) := ⟨⟨[], rfl, rfl, (fun r h => by cases h), by simpa using hrow⟩, hb1⟩
  clear hrow hb1
  go_wp2_with fail
  go_loopw [10] (fun i wr => ∃ j : Nat, j ≤ rs0.length ∧ i = .int .i64 j ∧ Hid (CpQ w b' c' rs0 j wr)) (fun i _ => rs0.length - (intOf i).toNat)
  case atStart => exact ⟨0, Nat.zero_le _, rfl, HS⟩
  case round =>
    obtain ⟨j, hj, rfl, HW⟩ := hrel
    by_cases hjm : j = rs0.length
    · go_wp2_with fail
      go_ret
      obtain ⟨⟨ns, n1, n2, n3, n4⟩, hk⟩ := HW.out
      subst hjm
      rw [List.drop_length, List.append_nil] at n4
      rw [List.take_length, HQ.out] at n2
      exact ⟨b', c', ns, rfl, n2, hb', n4, n3, hk⟩
    · have hjl : j < rs0.length := by omega
      have HA := Lib.hid (HR.out _ HW.out.keep j hjl)
      obtain ⟨hnil, hm8⟩ := HM.out j hjl
      have hjn : (j : Int) < (rs0.length : Int) := by omega
      obtain ⟨R, hR⟩ : ∃ R, rs0[j] = R := ⟨_, rfl⟩
      have HON : Hid (∀ w2, Below wr.heap.size wr w2 → ∀ A m d, OwnI w2 wr.heap.size (.slice A m d) R.q.bs → CpQ w b' c' rs0 (j + 1) (w2.setCell ⟨b', j * 6 + 4, none⟩ (.slice A m d))) := fun w2 h2 A m d ho => HW.out.on hb' hjl h2 (by rw [hR]; exact ho)
      have HST : Hid (∀ w2, Below wr.heap.size wr w2 → w2.frozen? ⟨b', j * 6 + 4, none⟩ = false ∧ (w2.cell? ⟨b', j * 6 + 4, none⟩).isSome = true) := fun w2 h2 => by
        obtain ⟨⟨ns, n1, n2, n3, n4⟩, hk⟩ := HW.out
        have r2 := n4.below h2
        refine ⟨r2.mark _, ?_⟩
        rw [r2.at_ (i := j) (by simp; omega) (by omega)]
        rfl
      rw [hR] at HA hnil hm8
      clear hR
      go_upto_region 5 with (first | (refine load_qu rfl _ rfl b (o + j * 6) (by simp [go_sem]) HA.out ?_) | (refine store_quN rfl _ _ rfl rfl rfl rfl ?_; intro w2 hb2 hs2 hh2; have HX2 := Lib.hid hh2; have HB2 := Lib.hid hb2; clear hb2 hh2))
      have hc4 : w2.cell? ⟨wr.heap.size, 4, none⟩ = some (.slice R.B R.m R.d) := HX2.out.cell 4
      have HCL := Lib.hid (sclone_any R.B R.m R.d R.q.bs w2 (HA.out.2.1.below HB2.out) hnil hm8)
      go_wp2_with fail
      refine HCL.out.mono ?_
      rintro e w3 ⟨A3, d3, rfl, ho3, hb3⟩
      have HB3 : Hid (Below wr.heap.size wr w3) := HB2.out.trans (hb3.mono HB2.out.size)
      have HW3 := Lib.hid (HON.out w3 HB3.out A3 R.m d3 (ho3.mono HB2.out.size))
      obtain ⟨f4, s4⟩ := HST.out w3 HB3.out
      obtain ⟨v4, s4⟩ := Option.isSome_iff_exists.1 s4
      clear ho3 hb3
      go_wp2_with fail
      go_roundw
      case rel => exact ⟨j + 1, by omega, by go_num, HW3⟩
      case measure => simp [intOf]; omega
end Go.Proofs.YtbpaepkcchpmbaaGreat

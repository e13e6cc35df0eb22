import Derived.Test.YtbpaepkcchpmbaaGreatG43
import Derived.Test.YtbpaepkcchpmbaaGreatG35
namespace Go.Proofs.YtbpaepkcchpmbaaGreat
open Go.RowKit
structure RoS (w0 : World) (L n : Nat) (s : Int) (rs0 : List Rq) (j : Nat) (xs : List LX) (w : World) : Prop where
  own : w.ownsRow w0.heap.size LT 11 (.slice (some ⟨L, 0, none⟩) j n) j (rowLn (xs.map (·.r)))
  len : xs.length = j
  dat : ∀ (i : Nat) (x : LX), xs[i]? = some x → ∃ r : Rq, rs0[i]? = some r ∧ x.r = ⟨i, r.q, r.B, r.d, s, x.r.g, 0, 0⟩ ∧ x.its = []
  pq : ∀ x, x ∈ xs → PQ x.O x.r.g x.r.q.bs [] w
  lim : ∀ x, x ∈ xs → ∀ k, x.O k → L < k ∧ k < w.heap.size
  dis : xs.Pairwise fun x y => ∀ k, x.O k → ¬ y.O k
  keep : Below w0.heap.size w0 w
  lo : w0.heap.size ≤ L
theorem RoS.lt {w0 w : World} {L n j : Nat} {s : Int} {rs0 : List Rq} {xs : List LX} (h : RoS w0 L n s rs0 j xs w) : L < w.heap.size := (World.ownsRow.lt h.own L rfl).2
theorem RoS.step {w0 wr w2 w3 w5 : World} {L n j gq : Nat} {s : Int} {rs0 : List Rq} {xs : List LX} {r : Rq} (h : RoS w0 L n s rs0 j xs wr) (hr : rs0[j]? = some r) (h2 : Below wr.heap.size wr w2) (h3 : Below w2.heap.size w2 w3)
    (hq : PQ (fun k => w2.heap.size ≤ k ∧ k < w3.heap.size) gq r.q.bs [] w3) {o : Obj} (hg : (w3.alloc o).grownBy w5 (some L))
    (ho : w5.ownsRow w0.heap.size LT 11 (.slice (some ⟨L, 0, none⟩) (j + 1) n) (j + 1) (rowLn (xs.map (·.r) ++ [⟨j, r.q, r.B, r.d, s, gq, 0, 0⟩]))) : ∃ xs', RoS w0 L n s rs0 (j + 1) xs' w5 := by
  have s2 := h2.size
  have s3 := h3.size
  have sk := h.keep.size
  have hL := h.lt
  have s4 : (w3.alloc o).heap.size = w3.heap.size + 1 := by simp
  have s5 := hg.size
  have b5 : ∀ k, k < w3.heap.size → k ≠ L → w5.heap[k]? = w3.heap[k]? := fun k hk hn => by
    rw [hg.block k (by omega) (fun e => hn (by injection e))]
    exact ((Below.refl _ w3).alloc (Nat.le_refl _) o).block k hk
  have b3 : ∀ k, k < wr.heap.size → w3.heap[k]? = wr.heap[k]? := fun k hk => (h3.block k (by omega)).trans (h2.block k hk)
  refine ⟨xs ++ [⟨⟨j, r.q, r.B, r.d, s, gq, 0, 0⟩, [], fun k => w2.heap.size ≤ k ∧ k < w3.heap.size⟩], ⟨by rw [List.map_append]; exact ho, by simp [h.len], fun i x hx => ?_, fun x hx => ?_, fun x hx k hk => ?_, ?_, ?_, h.lo⟩⟩
  · rcases Nat.lt_trichotomy i xs.length with hi | hi | hi
    · rw [List.getElem?_append_left hi] at hx; exact h.dat i x hx
    · subst hi
      rw [List.getElem?_append_right (Nat.le_refl _), Nat.sub_self] at hx
      obtain rfl : _ = x := by simpa using hx
      exact ⟨r, by rw [h.len]; exact hr, by simp [h.len], rfl⟩
    · rw [List.getElem?_eq_none (by simp; omega)] at hx; cases hx
  · rcases List.mem_append.1 hx with hx | hx
    · exact (h.pq x hx).same fun k hk => by
        have := h.lim x hx k hk
        rw [b5 k (by omega) (by omega), b3 k (by omega)]
    · obtain rfl := List.mem_singleton.1 hx
      exact hq.same fun k hk => b5 k (by have := hk.2; omega) (by have := hk.1; omega)
  · rcases List.mem_append.1 hx with hx | hx
    · have := h.lim x hx k hk
      omega
    · obtain rfl := List.mem_singleton.1 hx
      obtain ⟨h1, h4⟩ := hk
      exact ⟨by omega, by omega⟩
  · refine List.pairwise_append.2 ⟨h.dis, List.pairwise_singleton _ _, fun x hx y hy k hk hk2 => ?_⟩
    obtain rfl := List.mem_singleton.1 hy
    have := h.lim x hx k hk
    obtain ⟨h1, h4⟩ := hk2
    omega
  · have hlo := h.lo
    exact ⟨(hg.os.trans (h3.os.trans h2.os)).trans h.keep.os, (hg.tape.trans (h3.tape.trans h2.tape)).trans h.keep.tape, (hg.output.trans (h3.output.trans h2.output)).trans h.keep.output, by omega, fun k hk => by
      rw [b5 k (by omega) (by omega), b3 k (by omega), h.keep.block k hk]⟩
theorem RoS.row {w0 w w' : World} {L g j : Nat} {s : Int} {rs0 : List Rq} {xs : List LX} (h : RoS w0 L j s rs0 j xs w) (hg : Has w' g RT #[.slice none 0 0, .slice (some ⟨L, 0, none⟩) j j]) (hk : ∀ k, w0.heap.size ≤ k → k < w.heap.size → w'.heap[k]? = w.heap[k]?) (hs : w.heap.size ≤ w'.heap.size) (hgw : w.heap.size ≤ g) : RowX w' g (.slice none 0 0) L [] xs := by
  have hlo := h.lo
  have hL := h.lt
  have hl := h.len
  have hlw : Has w' L LT (rowLn (xs.map (·.r))).toArray := by
    rcases h.own.2 with ⟨e, _⟩ | ⟨g2, cap, cur, e, _, hh, h3, h4, h5, h6⟩
    · cases e
    · injection e with e1 e2 e3
      injection e1 with e1
      injection e1 with e1
      subst e1; subst e3
      have e : cur = (rowLn (xs.map (·.r))).toArray := by
        rw [← h6, List.take_of_length_le (by simp; omega)]
      rw [← e]
      exact (hk L hlo hL).trans hh
  exact ⟨by rw [hl]; exact hg, OwnIt.nil _ _, hlw, fun x hx => by
    obtain ⟨i, hi⟩ := List.getElem?_of_mem hx
    obtain ⟨r, _, _, h2⟩ := h.dat i x hi
    rw [h2]
    exact (h.pq x hx).same fun k hkk => by
      have := h.lim x hx k hkk
      exact hk k (by omega) this.2, fun x hx k hkk => by have := h.lim x hx k hkk; omega, h.dis, fun x hx k hkk => by
    have := h.lim x hx k hkk
    exact ⟨by omega, by omega, by simp [Value.ownBlock]⟩⟩
theorem RoS.below {w0 w w' : World} {L n j : Nat} {s : Int} {rs0 : List Rq} {xs : List LX} (h : RoS w0 L n s rs0 j xs w) (hb : Below w.heap.size w w') : RoS w0 L n s rs0 j xs w' :=
  ⟨h.own.kept (row := none) ⟨hb.os, hb.tape, hb.output, hb.size, fun k hk _ => hb.block k hk⟩ (.inr (by simp [Value.ownBlock])), h.len, h.dat, fun x hx => (h.pq x hx).below hb, fun x hx k hk => by
    have := h.lim x hx k hk
    have := hb.size
    omega, h.dis, h.keep.trans (hb.mono h.keep.size), h.lo⟩
def NewL (s : Int) (rs0 : List Rq) (xs : List LX) : Prop := xs.length = rs0.length ∧ ∀ (i : Nat) (x : LX), xs[i]? = some x → ∃ r : Rq, rs0[i]? = some r ∧ x.r = ⟨i, r.q, r.B, r.d, s, x.r.g, 0, 0⟩ ∧ x.its = []
structure FrQ (w : World) (b c : Nat) (rs : List Rq) : Prop where
  row : RowQ w b rs.length c rs
  bnd : ∀ i (h : i < rs.length), OwnI w 0 (.slice (rs[i]).B (rs[i]).m (rs[i]).d) (rs[i]).q.bs ∧ boundsB (rs[i]).q.bs = true
  len : 0 < rs.length ∧ rs.length ≤ 64
theorem FrQ.below {w w' : World} {b c : Nat} {rs : List Rq} (h : FrQ w b c rs) (hb : Below w.heap.size w w') : FrQ w' b c rs := ⟨h.row.below hb, fun i hi => ⟨(h.bnd i hi).1.below hb, (h.bnd i hi).2⟩, h.len⟩
theorem FrQ.at_ {w : World} {b c : Nat} {rs : List Rq} (h : FrQ w b c rs) {i : Nat} (hi : i < rs.length) : QuAt w b (0 + i * 6) (rs[i]).q (rs[i]).B (rs[i]).m (rs[i]).d := by
  obtain ⟨A', c', e', h1, h2, _⟩ := (h.bnd i hi).1.form
  refine ⟨fun j v hv => ?_, (h.bnd i hi).1.ints, by injection e' with _ e2 _; omega⟩
  have hj : j < 6 := by have := (List.getElem?_eq_some_iff.1 hv).1; rwa [quC_6] at this
  rw [Nat.zero_add, h.row.at_ hi hj]
  exact hv
theorem FrQ.nil {w : World} {b c : Nat} {rs : List Rq} (h : FrQ w b c rs) {i : Nat} (hi : i < rs.length) : (rs[i]).B = none → (rs[i]).d = 0 := fun e => by
  rcases (h.bnd i hi).1.2 with ⟨e2, _⟩ | ⟨g, cap, cur, e2, _⟩
  · injection e2
  · injection e2 with e3
    rw [e] at e3
    cases e3
theorem butO_grown {w w' : World} {o : Obj} {b : Nat} (h : (w.alloc o).grownBy w' (some b)) : ButO (fun k => k = b) w w' :=
  ⟨h.os, h.tape, h.output, by have := h.size; simp at this; omega, fun k hk hn => (h.block k (by simp; omega) (fun e => hn (by injection e))).trans (((Below.refl _ w).alloc (Nat.le_refl _) o).block k hk)⟩
set_option maxRecDepth 100000 in
set_option maxHeartbeats 2000000 in
theorem rowof_new {g mp n0 qb qc : Nat} {cs : Array Value} {D : DataW Unit} {m : Int → Option Nat} {rs0 : List Rq} {s late mark seq : Int} {w : World} (hw : Has w g UT cs) (hf : FrC cs (some ⟨qb, 0, none⟩) rs0.length qc late mark seq) (hm7 : cs[7]? = some (.map (some mp)))
    (hmap : MapF w mp n0 D m) (hn0 : n0 ≤ 1048576) (hs : 0 ≤ s ∧ s ≤ 1048575) (hnone : m s = none) (hq : FrQ w qb qc rs0) :
    Calls Tryz.prog 109 #[.pointer (some ⟨g, 0, none⟩), .int .i64 s] w fun e w' => ∃ gr L xs, e = .returned (.pointer (some ⟨gr, 0, none⟩)) ∧ RowX w' gr (.slice none 0 0) L [] xs ∧
      NewL s rs0 xs ∧
      MapF w' mp (n0 + 1) (D.put (.int .i64 s) (ptrD (some gr))) (fun x => if x = s then some gr else m x) ∧ (∀ k, RowU gr (.slice none 0 0) L xs k → w.heap.size ≤ k) ∧ ButO (fun k => k = mp) w w' := by
  have HLK := hmap.look hs
  rw [hnone] at HLK
  change _ = Result.ok (Value.pointer none) w at HLK
  have c7 : w.cell? ⟨g, 7, none⟩ = some (.map (some mp)) := (hw.cell 7).trans hm7
  have HW := Lib.hid hw
  have HF := Lib.hid hf
  have HM := Lib.hid hmap
  have HQ := Lib.hid hq
  have H7 := Lib.hid hm7
  have hlen := hq.len
  obtain ⟨n, hn⟩ : ∃ n, rs0.length = n := ⟨_, rfl⟩
  rw [hn] at HF hlen
  have HN := Lib.hid hn
  have HQS : Hid (∀ w', Below w.heap.size w w' → Calls Tryz.prog 125 #[.pointer (some ⟨g, 0, none⟩)] w' fun e w2 => e = .returned (.slice (some ⟨qb, 0, none⟩) n qc) ∧ w' = w2) := fun w' hb => (fqueries_any (hw.below hb hw.lt) HF.out).mono fun e w2 h => ⟨h.1, h.2.symm⟩
  clear hw hf hmap hq hm7 hn
  go_enter Tryz.func109, Tryz.ntmps109
  go_wp2_with (first
    | (go_at_call 125; refine (HQS.out w (Below.refl _ _)).mono ?_; rintro e w' ⟨rfl, rfl⟩)
    | (refine make_lanes rfl _ _ rfl n rfl rfl hlen.2 ?_; intro w1 ho1 hg1 hl1; have HO1 := Lib.hid ho1; have HB1 : Hid (Below w.heap.size w w1) := grow_below hg1 (fun b e => by cases e) (Nat.le_refl _); clear ho1 hg1))
  have HS1 : Hid (RoS w w.heap.size n s rs0 0 [] w1) := ⟨HO1.out, rfl, (fun i x h => by simp at h), (fun x h => by cases h), (fun x h => by cases h), List.Pairwise.nil, HB1.out, Nat.le_refl _⟩
  have HQS1 := Lib.hid (HQS.out w1 HB1.out)
  have HC7 : Hid (∀ w', Below w.heap.size w w' → w'.cell? ⟨g, 7, none⟩ = some (.map (some mp))) := fun w' hb => ((HW.out.below hb HW.out.lt).cell 7).trans H7.out
  have hmp : mp < w.heap.size := HM.out.own.lt
  go_wp2_with (first | (go_at_call 125; refine HQS1.out.mono ?_; rintro e w' ⟨rfl, rfl⟩))
  go_loopw [5, 26] (fun V i wr => ∃ (j : Nat) (xs : List LX), j ≤ n ∧ i = .int .i64 j ∧ V = .slice (some ⟨w.heap.size, 0, none⟩) j n ∧ Hid (RoS w w.heap.size n s rs0 j xs wr)) (fun V _ _ => n - slLen V)
  case atStart => exact ⟨0, [], Nat.zero_le _, rfl, rfl, HS1⟩
  case round =>
    obtain ⟨j, xs, hj, rfl, rfl, HR⟩ := hrel
    by_cases hjn : j = n
    · subst hjn
      have c7r := HC7.out wr HR.out.keep
      have HMr := Lib.hid (HM.out.same (HR.out.keep.block mp hmp))
      have hgr : w.heap.size ≤ wr.heap.size := HR.out.keep.size
      have HBX : Hid (∀ o, (wr.alloc o).cell? ⟨g, 7, none⟩ = some (.map (some mp))) := fun o => HC7.out _ (HR.out.keep.alloc hgr o)
      have hgm : some g ≠ some mp := fun e => by
        injection e with e
        obtain ⟨es, clock, hb, _⟩ := HM.out.own
        have h := HW.out
        unfold Has at h
        rw [e, hb] at h
        cases h
      have hwm : some wr.heap.size ≠ some mp := fun e => by injection e with e; omega
      have HWA : Hid (∀ o, Has (wr.alloc o) g UT cs) := fun o => (HW.out.below HR.out.keep HW.out.lt).alloc o
      have HMB : Hid (∀ o, MapF (wr.alloc o) mp n0 D m) := fun o => HMr.out.kept (World.grownBy_alloc wr o none) (by simp)
      go_wp2_with (first
        | (refine upd_row rfl _ _ _ rfl (HMB.out _) hs (by unfold maxLen; omega) (g := wr.heap.size) rfl rfl rfl ?_; intro w6 hm6 hg6; have c76 := ((HWA.out _).kept_ hg6 hgm).cell 7; rw [H7.out] at c76; have lk6 := hm6.look hs; rw [if_pos rfl] at lk6; change _ = Result.ok (Value.pointer (some ⟨wr.heap.size, 0, none⟩)) w6 at lk6; have HX6 : Hid (Has w6 wr.heap.size RT #[.slice none 0 0, .slice (some ⟨w.heap.size, 0, none⟩) j j]) := (Has.made wr RT #[.slice none 0 0, .slice (some ⟨w.heap.size, 0, none⟩) j j]).kept_ hg6 hwm; have HM6 := Lib.hid hm6; have HG6 : Hid (ButO (fun k => k = mp) wr w6) := butO_grown hg6; clear hm6 hg6))
      go_ret
      have hs6 := HG6.out.size
      have hrow := HR.out.row HX6.out (fun k h1 h2 => HG6.out.other k h2 (by omega)) hs6 (Nat.le_refl _)
      refine ⟨wr.heap.size, w.heap.size, xs, rfl, hrow, ⟨by rw [HR.out.len, HN.out], HR.out.dat⟩, HM6.out, fun k hk => ?_, ?_⟩
      · rcases hk with rfl | rfl | hk | ⟨x, hx, hk⟩
        · exact hgr
        · exact Nat.le_refl _
        · simp [Value.ownBlock] at hk
        · have := HR.out.lim x hx k hk
          omega
      · exact ((below_butO HR.out.keep (fun k => k = mp)).andThen HG6.out fun k e _ => e)
    · have hjl : j < n := by omega
      have hjr : j < rs0.length := by rw [HN.out]; exact hjl
      have hjn : (j : Int) < (n : Int) := by omega
      have hgr : w.heap.size ≤ wr.heap.size := HR.out.keep.size
      have HQr := HQ.out.below HR.out.keep
      have hget : rs0[j]? = some rs0[j] := List.getElem?_eq_getElem hjr
      have hat := HQr.at_ hjr
      rw [Nat.zero_add] at hat
      have hnl := HQr.nil hjr
      have hbd := (HQr.bnd j hjr).2
      have hml : rs0[j].q.bs.length = rs0[j].m := hat.2.1.1
      clear HQr
      generalize rs0[j] = R at hget hat hnl hbd hml
      obtain ⟨q, B, mm, d⟩ := R
      dsimp only at hat hnl hbd hml
      subst hml
      have HA := Lib.hid hat
      have HT : Hid (∀ (w2 w3 w5 : World) (gq : Nat) (o : Obj), Below wr.heap.size wr w2 → Below w2.heap.size w2 w3 → PQ (fun k => w2.heap.size ≤ k ∧ k < w3.heap.size) gq q.bs [] w3 → (w3.alloc o).grownBy w5 (some w.heap.size) →
          w5.ownsRow w.heap.size LT 11 (.slice (some ⟨w.heap.size, 0, none⟩) (j + 1) n) (j + 1) (rowLn (xs.map (·.r) ++ [⟨j, q, B, d, s, gq, 0, 0⟩])) → ∃ xs', RoS w w.heap.size n s rs0 (j + 1) xs' w5) :=
        fun w2 w3 w5 gq o h2 h3 hq hg ho => HR.out.step (r := ⟨q, B, q.bs.length, d⟩) hget h2 h3 hq hg ho
      clear hat hget
      go_upto_region 6 with (first | (refine load_qu rfl _ rfl qb (j * 6) (by simp [go_sem]) HA.out ?_) | (refine store_quN rfl _ _ rfl rfl rfl rfl ?_; intro w2 hb2 hs2 hh2; have HX2 := Lib.hid hh2; have HB2 := Lib.hid hb2; clear hb2 hh2))
      have HNL := Lib.hid (newlane_any (j : Int) s q B d w2 (HA.out.2.1.below HB2.out) hnl hbd)
      go_wp2_with (first | (refine load_quH rfl _ rfl wr.heap.size rfl HX2.out ?_) | (refine build_ask rfl _ _ _ rfl (j : Int) s q B d rfl rfl rfl ?_))
      refine HNL.out.mono ?_
      rintro e w3 ⟨gq, rfl, hp3, hb3⟩
      have HP3 := Lib.hid hp3
      have HB3 := Lib.hid hb3
      have HO3 : Hid (∀ o, (w3.alloc o).ownsRow w.heap.size LT 11 (.slice (some ⟨w.heap.size, 0, none⟩) j n) j (rowLn (xs.map (·.r)))) := fun o => (((HR.out.below HB2.out).below hb3).below ((Below.refl _ w3).alloc (Nat.le_refl _) o)).own
      clear hp3 hb3
      go_wp2_with (first
        | (refine lit_lane rfl _ rfl ⟨j, q, B, d, s, gq, 0, 0⟩ rfl ?_)
        | (at_builtin; refine app_lane rfl _ _ rfl (base := w.heap.size) (L := w.heap.size) (j := j) (n := n) (g := w3.heap.size) (r := ⟨j, q, B, d, s, gq, 0, 0⟩) rfl (HO3.out _) rfl (Has.made _ _ _) hjl ?_; intro w5 ho5 hg5; have HT5 := Lib.hid (HT.out w2 w3 w5 gq _ HB2.out HB3.out HP3.out hg5 ho5); clear ho5 hg5))
      obtain ⟨xs5, h5⟩ := HT5.out
      go_roundw
      case rel => exact ⟨j + 1, xs5, by omega, by go_num, rfl, h5⟩
      case measure => simp [slLen]; omega
set_option maxRecDepth 100000 in
set_option maxHeartbeats 400000 in
theorem rowof_some {g mp n0 gr : Nat} {cs : Array Value} {D : DataW Unit} {m : Int → Option Nat} {s : Int} {w : World} (hw : Has w g UT cs) (hm7 : cs[7]? = some (.map (some mp)))
    (hmap : MapF w mp n0 D m) (hs : 0 ≤ s ∧ s ≤ 1048575) (hsome : m s = some gr) :
    Calls Tryz.prog 109 #[.pointer (some ⟨g, 0, none⟩), .int .i64 s] w fun e w' => e = .returned (.pointer (some ⟨gr, 0, none⟩)) ∧ w = w' := by
  have HLK := hmap.look hs
  rw [hsome] at HLK
  change _ = Result.ok (Value.pointer (some ⟨gr, 0, none⟩)) w at HLK
  have c7 : w.cell? ⟨g, 7, none⟩ = some (.map (some mp)) := (hw.cell 7).trans hm7
  clear hw hm7 hmap hsome
  go_enter Tryz.func109, Tryz.ntmps109
  go_wp2_with fail
  go_ret
  exact ⟨rfl, rfl⟩
end Go.Proofs.YtbpaepkcchpmbaaGreat
namespace Go.Proofs.YtbpaepkcchpmbaaGreat
open Go.RowKit
structure RD where
  s : Int
  g : Nat
  V : Value
  L : Nat
  its : List It
  xs : List LX
  R : List It
def RD.U (r : RD) : Nat → Prop := RowU r.g r.V r.L r.xs
structure RuD where
  g : Nat
  qb : Nat
  qc : Nat
  qs : List Rq
  late : Int
  mark : Int
  seq : Int
  rel : Int
  hp : Nat
  gs : List Nat
  wt : List It
  mp : Nat
  n0 : Nat
  D : DataW Unit
  m : Int → Option Nat
  rows : List RD
def ruC (u : RuD) : Array Value := #[.int .i64 1800, .int .i64 1801, .slice (some ⟨u.qb, 0, none⟩) u.qs.length u.qc, .int .i64 u.late, .int .i64 u.mark, .int .i64 u.seq, .pointer (some ⟨u.hp, 0, none⟩), .map (some u.mp), .int .i64 u.rel]
def QuB (qb : Nat) (qs : List Rq) : Nat → Prop := fun k => k = qb ∨ ∃ r, r ∈ qs ∧ (Value.slice r.B r.m r.d).ownBlock = some k
def RuD.Fix (u : RuD) : Nat → Prop := fun k => k = u.g ∨ k = u.mp ∨ QuB u.qb u.qs k
def RuD.U (u : RuD) : Nat → Prop := fun k => u.Fix k ∨ k ∈ u.gs ∨ ∃ r, r ∈ u.rows ∧ r.U k
structure RuX (w : World) (u : RuD) : Prop where
  st : Has w u.g UT (ruC u)
  frq : FrQ w u.qb u.qc u.qs
  hp : HpS w u.gs u.hp 8192 u.wt
  map : MapF w u.mp u.n0 u.D u.m
  mIn : ∀ r, r ∈ u.rows → u.m r.s = some r.g
  mOut : ∀ s, (∀ r, r ∈ u.rows → r.s ≠ s) → u.m s = none
  row : ∀ r, r ∈ u.rows → RowX w r.g r.V r.L r.its r.xs
  ser : ∀ r, r ∈ u.rows → 0 ≤ r.s ∧ r.s ≤ 1048575
  nd : u.rows.Pairwise fun a b => a.s ≠ b.s
  dis : u.rows.Pairwise fun a b => ∀ k, a.U k → ¬ b.U k
  offG : ∀ k, k ∈ u.gs → ¬ u.Fix k
  offR : ∀ r, r ∈ u.rows → ∀ k, r.U k → ¬ u.Fix k ∧ k ∉ u.gs
theorem ruC_frC (u : RuD) : FrC (ruC u) (some ⟨u.qb, 0, none⟩) u.qs.length u.qc u.late u.mark u.seq := ⟨rfl, rfl, rfl, rfl, rfl, rfl⟩
theorem OwnI.has0 {w : World} {base : Nat} {v : Value} {xs : List Int} (h : OwnI w base v xs) {k : Nat} (hk : v.ownBlock = some k) : ∃ cur, Has w k 3 cur := by
  rcases h.2 with ⟨e, _⟩ | ⟨g, cap, cur, e, hg, hh, _⟩
  · rw [e] at hk; simp [Value.ownBlock] at hk
  · rw [e] at hk
    obtain rfl : g = k := by simpa [Value.ownBlock] using hk
    exact ⟨cur, hh⟩
theorem OwnI.same0 {w w' : World} {base : Nat} {v : Value} {xs : List Int} (h : OwnI w base v xs) (hk : ∀ k, v.ownBlock = some k → w'.heap[k]? = w.heap[k]?) : OwnI w' base v xs := by
  refine ⟨h.1, ?_⟩
  rcases h.2 with h0 | ⟨g, cap, cur, e, hg, hh, r⟩
  · exact .inl h0
  · refine .inr ⟨g, cap, cur, e, hg, ?_, r⟩
    rw [hk g (by rw [e]; rfl)]
    exact hh
section
variable {w w' : World} {u : RuD}
theorem FrQ.same {b c : Nat} {rs : List Rq} (h : FrQ w b c rs) (hk : ∀ k, QuB b rs k → w'.heap[k]? = w.heap[k]?) : FrQ w' b c rs := by
  obtain ⟨h1, h2, h3, cur, h4, h5⟩ := h.row
  exact ⟨⟨h1, h2, h3, cur, (hk b (.inl rfl)).trans h4, h5⟩, fun i hi => ⟨(h.bnd i hi).1.same0 fun k e => hk k (.inr ⟨rs[i], List.getElem_mem hi, e⟩), (h.bnd i hi).2⟩, h.len⟩
theorem FrQ.lt {b c : Nat} {rs : List Rq} (h : FrQ w b c rs) : ∀ k, QuB b rs k → k < w.heap.size := fun k hk => by
  rcases hk with rfl | ⟨r, hr, e⟩
  · exact h.row.lt
  · obtain ⟨i, hi, rfl⟩ := List.getElem_of_mem hr
    obtain ⟨cur, hc⟩ := (h.bnd i hi).1.has0 e
    exact hc.lt
theorem RuX.fixLt (h : RuX w u) : ∀ k, u.Fix k → k < w.heap.size := fun k hk => by
  rcases hk with rfl | rfl | hk
  · exact h.st.lt
  · exact h.map.own.lt
  · exact h.frq.lt k hk
theorem RuX.lt (h : RuX w u) : ∀ k, u.U k → k < w.heap.size := fun k hk => by
  rcases hk with hk | hk | ⟨r, hr, hk⟩
  · exact h.fixLt k hk
  · exact h.hp.lt k hk
  · exact (h.row r hr).lt k hk
theorem RuX.same (h : RuX w u) (hs : w.heap.size ≤ w'.heap.size) (hk : ∀ k, u.U k → w'.heap[k]? = w.heap[k]?) : RuX w' u :=
  ⟨(hk u.g (.inl (.inl rfl))).trans h.st, h.frq.same fun k e => hk k (.inl (.inr (.inr e))), h.hp.same (fun k e => hk k (.inr (.inl e))) hs, h.map.same (hk u.mp (.inl (.inr (.inl rfl)))), h.mIn, h.mOut,
    fun r hr => (h.row r hr).same hs fun k e => hk k (.inr (.inr ⟨r, hr, e⟩)), h.ser, h.nd, h.dis, h.offG, h.offR⟩
theorem RuX.below (h : RuX w u) (hb : Below w.heap.size w w') : RuX w' u := h.same hb.size fun k hk => hb.block k (h.lt k hk)
theorem RuX.butO {O : Nat → Prop} (h : RuX w u) (hb : ButO O w w') (hO : ∀ k, u.U k → ¬ O k) : RuX w' u := h.same hb.size fun k hk => hb.other k (h.lt k hk) (hO k hk)
theorem RuX.perm {rows : List RD} (h : RuX w u) (hp : u.rows.Perm rows) : RuX w { u with rows := rows } :=
  ⟨h.st, h.frq, h.hp, h.map, fun r hr => h.mIn r (hp.mem_iff.2 hr), fun s hs => h.mOut s fun r hr => hs r (hp.mem_iff.1 hr), fun r hr => h.row r (hp.mem_iff.2 hr), fun r hr => h.ser r (hp.mem_iff.2 hr),
    (hp.pairwise_iff (fun {_ _} hab => Ne.symm hab)).1 h.nd, (hp.pairwise_iff (fun {_ _} hab k h1 h2 => hab k h2 h1)).1 h.dis, h.offG, fun r hr => h.offR r (hp.mem_iff.2 hr)⟩
theorem RuX.setHeap {gs : List Nat} {wt : List It} (h : RuX w u) (hb : ButS u.gs w w') (hp : HpS w' gs u.hp 8192 wt) (hg : ∀ k, k ∈ gs → k ∈ u.gs ∨ w.heap.size ≤ k) : RuX w' { u with gs := gs, wt := wt } := by
  have hF : ∀ k, u.Fix k → w'.heap[k]? = w.heap[k]? := fun k hk => hb.other k (h.fixLt k hk) fun e => h.offG k e hk
  have hR : ∀ r, r ∈ u.rows → ∀ k, r.U k → w'.heap[k]? = w.heap[k]? := fun r hr k hk => hb.other k ((h.row r hr).lt k hk) (h.offR r hr k hk).2
  refine ⟨(hF u.g (.inl rfl)).trans h.st, h.frq.same fun k e => hF k (.inr (.inr e)), hp, h.map.same (hF u.mp (.inr (.inl rfl))), h.mIn, h.mOut, fun r hr => (h.row r hr).same hb.size (hR r hr), h.ser, h.nd, h.dis, fun k hk hf => ?_, fun r hr k hk => ⟨(h.offR r hr k hk).1, fun e => ?_⟩⟩
  · rcases hg k hk with e | e
    · exact h.offG k e hf
    · have := h.fixLt k hf
      omega
  · rcases hg k e with e | e
    · exact (h.offR r hr k hk).2 e
    · have := (h.row r hr).lt k hk
      omega
theorem RuX.setRow {O : Nat → Prop} {r r' : RD} {rest : List RD} (h : RuX w u) (e : u.rows = r :: rest) (hs : r'.s = r.s) (hg : r'.g = r.g) (hr : RowX w' r'.g r'.V r'.L r'.its r'.xs) (hb : ButO O w w') (hO : ∀ k, O k → u.U k → r.U k) (hU : ∀ k, r'.U k → r.U k ∨ w.heap.size ≤ k) : RuX w' { u with rows := r' :: rest } := by
  have hmr : r ∈ u.rows := by rw [e]; exact List.mem_cons_self
  have hmt : ∀ q, q ∈ rest → q ∈ u.rows := fun q hq => by rw [e]; exact List.mem_cons_of_mem _ hq
  have hd := h.dis
  have hn := h.nd
  rw [e] at hd hn
  have hd1 := (List.pairwise_cons.1 hd).1
  have hn1 := (List.pairwise_cons.1 hn).1
  have hF : ∀ k, u.Fix k → w'.heap[k]? = w.heap[k]? := fun k hk => hb.other k (h.fixLt k hk) fun ho => (h.offR r hmr k (hO k ho (.inl hk))).1 hk
  have hR : ∀ q, q ∈ rest → ∀ k, q.U k → w'.heap[k]? = w.heap[k]? := fun q hq k hk => hb.other k ((h.row q (hmt q hq)).lt k hk) fun ho => hd1 q hq k (hO k ho (.inr (.inr ⟨q, hmt q hq, hk⟩))) hk
  refine ⟨(hF u.g (.inl rfl)).trans h.st, h.frq.same fun k e => hF k (.inr (.inr e)), h.hp.same (fun k hk => hb.other k (h.hp.lt k hk) fun ho => (h.offR r hmr k (hO k ho (.inr (.inl hk)))).2 hk) hb.size, h.map.same (hF u.mp (.inr (.inl rfl))), fun q hq => ?_, fun s hs2 => ?_, fun q hq => ?_, fun q hq => ?_,
    List.pairwise_cons.2 ⟨fun q hq => by rw [hs]; exact hn1 q hq, (List.pairwise_cons.1 hn).2⟩, List.pairwise_cons.2 ⟨fun q hq k hk hk2 => ?_, (List.pairwise_cons.1 hd).2⟩, h.offG, fun q hq k hk => ?_⟩
  · rcases List.mem_cons.1 hq with rfl | hq
    · show u.m q.s = some q.g
      rw [hs, hg]; exact h.mIn r hmr
    · exact h.mIn q (hmt q hq)
  · refine h.mOut s fun q hq => ?_
    rw [e] at hq
    rcases List.mem_cons.1 hq with rfl | hq
    · rw [← hs]; exact hs2 r' List.mem_cons_self
    · exact hs2 q (List.mem_cons_of_mem _ hq)
  · rcases List.mem_cons.1 hq with rfl | hq
    · exact hr
    · exact (h.row q (hmt q hq)).same hb.size (hR q hq)
  · rcases List.mem_cons.1 hq with rfl | hq
    · rw [hs]; exact h.ser r hmr
    · exact h.ser q (hmt q hq)
  · rcases hU k hk with h1 | h1
    · exact hd1 q hq k h1 hk2
    · have := (h.row q (hmt q hq)).lt k hk2
      omega
  · rcases List.mem_cons.1 hq with rfl | hq
    · rcases hU k hk with h1 | h1
      · exact h.offR r hmr k h1
      · exact ⟨fun hf => (by have := h.fixLt k hf; omega), fun hm => (by have := h.hp.lt k hm; omega)⟩
    · exact h.offR q (hmt q hq) k hk
theorem RuX.gNe (h : RuX w u) : u.g ≠ u.mp ∧ (∀ k, QuB u.qb u.qs k → k ≠ u.g ∧ k ≠ u.mp) := by
  obtain ⟨es, clock, hm, _⟩ := h.map.own
  have hm2 : ∀ k t cs, Has w k t cs → k ≠ u.mp := fun k t cs hh e => by
    unfold Has at hh
    rw [e, hm] at hh
    cases hh
  refine ⟨hm2 u.g _ _ h.st, fun k hk => ?_⟩
  rcases hk with rfl | ⟨r, hr, hk⟩
  · obtain ⟨cur, hc⟩ := h.frq.row.has
    exact ⟨fun e => has_types (e ▸ hc) h.st (by decide), hm2 _ _ _ hc⟩
  · obtain ⟨i, hi, rfl⟩ := List.getElem_of_mem hr
    obtain ⟨cur, hc⟩ := (h.frq.bnd i hi).1.has0 hk
    exact ⟨fun e => has_types (e ▸ hc) h.st (by decide), hm2 _ _ _ hc⟩
theorem RuX.setFront {mark seq rel : Int} (h : RuX w u) (hst : Has w' u.g UT (ruC { u with mark := mark, seq := seq, rel := rel })) (hb : ButO (fun k => k = u.g) w w') : RuX w' { u with mark := mark, seq := seq, rel := rel } := by
  obtain ⟨hgm, hgq⟩ := h.gNe
  refine ⟨hst, h.frq.same fun k e => hb.other k (h.frq.lt k e) (hgq k e).1, h.hp.same (fun k hk => hb.other k (h.hp.lt k hk) fun e => h.offG k hk (.inl e)) hb.size, h.map.same (hb.other u.mp h.map.own.lt fun e => hgm e.symm), h.mIn, h.mOut,
    fun r hr => (h.row r hr).same hb.size fun k hk => hb.other k ((h.row r hr).lt k hk) fun e => (h.offR r hr k hk).1 (.inl e), h.ser, h.nd, h.dis, h.offG, h.offR⟩
theorem RuX.addRow {r : RD} {n' : Nat} {D' : DataW Unit} (h : RuX w u) (hs : 0 ≤ r.s ∧ r.s ≤ 1048575) (hn : u.m r.s = none) (hr : RowX w' r.g r.V r.L r.its r.xs) (hm : MapF w' u.mp n' D' (fun x => if x = r.s then some r.g else u.m x)) (hb : ButO (fun k => k = u.mp) w w') (hU : ∀ k, r.U k → w.heap.size ≤ k) :
    RuX w' { u with rows := r :: u.rows, n0 := n', D := D', m := fun x => if x = r.s then some r.g else u.m x } := by
  obtain ⟨hgm, hgq⟩ := h.gNe
  have hne : ∀ q, q ∈ u.rows → q.s ≠ r.s := fun q hq e => by
    have := h.mIn q hq
    rw [e, hn] at this
    cases this
  refine ⟨(hb.other u.g h.st.lt hgm).trans h.st, h.frq.same fun k e => hb.other k (h.frq.lt k e) (hgq k e).2, h.hp.same (fun k hk => hb.other k (h.hp.lt k hk) fun e => h.offG k hk (.inr (.inl e))) hb.size, hm, fun q hq => ?_, fun s hs2 => ?_, fun q hq => ?_, fun q hq => ?_,
    List.pairwise_cons.2 ⟨fun q hq => Ne.symm (hne q hq), h.nd⟩, List.pairwise_cons.2 ⟨fun q hq k hk hk2 => ?_, h.dis⟩, h.offG, fun q hq k hk => ?_⟩
  · rcases List.mem_cons.1 hq with rfl | hq
    · exact if_pos rfl
    · show (if q.s = r.s then some r.g else u.m q.s) = _
      rw [if_neg (hne q hq)]; exact h.mIn q hq
  · show (if s = r.s then some r.g else u.m s) = none
    rw [if_neg fun e => hs2 r List.mem_cons_self e.symm]
    exact h.mOut s fun q hq => hs2 q (List.mem_cons_of_mem _ hq)
  · rcases List.mem_cons.1 hq with rfl | hq
    · exact hr
    · exact (h.row q hq).same hb.size fun k hk => hb.other k ((h.row q hq).lt k hk) fun e => (h.offR q hq k hk).1 (.inr (.inl e))
  · rcases List.mem_cons.1 hq with rfl | hq
    · exact hs
    · exact h.ser q hq
  · have := hU k hk
    have := (h.row q hq).lt k hk2
    omega
  · rcases List.mem_cons.1 hq with rfl | hq
    · have hk2 := hU k hk
      exact ⟨fun hf => (by have := h.fixLt k hf; omega), fun hm => (by have := h.hp.lt k hm; omega)⟩
    · exact h.offR q hq k hk
end
end Go.Proofs.YtbpaepkcchpmbaaGreat

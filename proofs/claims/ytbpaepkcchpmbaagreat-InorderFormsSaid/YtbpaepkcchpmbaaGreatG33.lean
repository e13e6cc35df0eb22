import Derived.Test.YtbpaepkcchpmbaaGreatG32
import Derived.Deep.LoopGhost
import Derived.Maps.RangeWalk
import Derived.Test.YtbpaepkcchpmbaaGreatG25
namespace Go.Proofs.YtbpaepkcchpmbaaGreat
open Go.RowKit
structure LtE (E O : Nat → Prop) (w0 : World) (L lo : Nat) (cur : Array Value) (r : Lr) (V0 : Value) (zs0 : List Rz) (l : Ln) (told : List Wn) (O' : Nat → Prop) (V : Value) (zs : List Rz) (w : World) : Prop where
  lw : Has w L LT (laneA cur lo l.a l.b)
  pq : PQ O' r.g r.q.bs (ones r.q.bs l.its) w
  out : OutZ (fun k => E k ∨ O' k) w V zs
  told : zs.map Rz.val = zs0.map Rz.val ++ told.map (valW r.q r.s)
  oin : ∀ k, O' k → O k ∨ (w0.heap.size ≤ k ∧ k < w.heap.size)
  kp : ButO (fun k => O k ∨ k = L ∨ V0.ownBlock = some k) w0 w
  vb : V.ownBlock = V0.ownBlock ∨ ∃ k, V.ownBlock = some k ∧ w0.heap.size ≤ k
structure TlP (r : Lr) (R : List It) (line : Int) (zs0 : List Rz) (tot : List Wn × Ln) (its : List It) (a b : Int) (zs : List Rz) (done : List Wn) (ℓ : Int) : Prop where
  told : zs.map Rz.val = zs0.map Rz.val ++ done.map (valW r.q r.s)
  tot : tot = (done ++ (tellLn r.k r.q.kind r.q.size r.q.slide line ⟨its, a, b⟩).1, (tellLn r.k r.q.kind r.q.size r.q.slide line ⟨its, a, b⟩).2)
  inv : LnI r.q.kind r.q.size r.q.slide r.s R ℓ ⟨its, a, b⟩
  le : ℓ ≤ line
  sub : its.length ≤ 8192
theorem LtE.none {E O : Nat → Prop} {w0 : World} {L lo : Nat} {cur : Array Value} {r : Lr} {V0 : Value} {zs0 : List Rz} {its : List It} {line : Int} (hw : Has w0 L LT cur) (hc : LnC cur lo r) (hp : PQ O r.g r.q.bs (ones r.q.bs its) w0) (hZ : OutZ (fun k => E k ∨ O k) w0 V0 zs0) (hs : its = [] ∨ line < r.b) (k : Nat) :
    LtE E O w0 L lo cur r V0 zs0 (tellLn r.k r.q.kind r.q.size r.q.slide line ⟨its, r.a, r.b⟩).2 (tellLn r.k r.q.kind r.q.size r.q.slide line ⟨its, r.a, r.b⟩).1 O V0 zs0 (w0.drewN k) := by
  rw [tellLn_none (l := ⟨its, r.a, r.b⟩) hs]
  have hb : Below w0.heap.size w0 (w0.drewN k) := below_drewN (Below.refl _ _) k
  exact ⟨by rw [lane_self hc]; exact hw.drewN k, hp.below hb, hZ.below hb, by simp, fun j hj => .inl hj, below_butO hb _, .inl rfl⟩
theorem TlM.start {E O : Nat → Prop} {w0 w2 : World} {L lo H : Nat} {cur : Array Value} {r : Lr} {V0 : Value} {zs0 : List Rz} {its : List It} (c : TlC E O w0 L) (hw : Has w0 L LT cur) (hc : LnC cur lo r) (hp : PQ O r.g r.q.bs (ones r.q.bs its) w0) (hZ : OutZ (fun k => E k ∨ O k) w0 V0 zs0)
    (hb : Below w0.heap.size w0 w2) (hH : Has w2 H 3 (ints (foldA r.q.bs its).h)) :
    TlM E O w0 L lo cur r V0 w2.heap.size its r.a r.b O V0 zs0 (w2.alloc (.cells (accC (foldA r.q.bs its) (some ⟨H, 0, none⟩) (foldA r.q.bs its).h.length (foldA r.q.bs its).h.length) AcT)) := by
  have hb3 : Below w0.heap.size w0 (w2.alloc (.cells (accC (foldA r.q.bs its) (some ⟨H, 0, none⟩) (foldA r.q.bs its).h.length (foldA r.q.bs its).h.length) AcT)) := below_alloc hb (Nat.le_refl _) _
  have hs := hb.size
  exact ⟨by rw [lane_self hc]; exact hw.below hb3 hw.lt, hp.below hb3, hZ.below hb3, ⟨H, Has.made w2 _ _, hH.alloc _⟩, fun j hj => .inl hj, below_butO hb3 _, .inl rfl, fun e => by have := c.o0 _ e; omega, hs⟩
section
variable {r : Lr} {R : List It} {line : Int} {zs0 zs : List Rz} {tot : List Wn × Ln} {its : List It} {a b ℓ : Int} {done : List Wn}
theorem TlP.step (hq : QnOk r.q.kind r.q.size r.q.slide) (h : TlP r R line zs0 tot its a b zs done ℓ) (hn : its ≠ []) (hb : b ≤ line) {z : Rz} (hz : z.val = valW r.q r.s ⟨r.k, a, b, its⟩) :
    TlP r R line zs0 tot (cutT (a + stR (r.nx a b)) its) (a + stR (r.nx a b)) (b + stR (r.nx a b)) (zs ++ [z]) (done ++ [⟨r.k, a, b, its⟩]) b ∧
      (tellLn r.k r.q.kind r.q.size r.q.slide line ⟨its, a, b⟩).1.length = (tellLn r.k r.q.kind r.q.size r.q.slide line ⟨cutT (a + stR (r.nx a b)) its, a + stR (r.nx a b), b + stR (r.nx a b)⟩).1.length + 1 := by
  obtain ⟨r1, _, r3, r4⟩ := lnI_round (k := r.k) hq h.inv hn
  have e : (Ln.mk its a b).next r.q.kind r.q.size r.q.slide = ⟨cutT (a + stR (r.nx a b)) its, a + stR (r.nx a b), b + stR (r.nx a b)⟩ := rfl
  have e2 := tellLn_some (k := r.k) (l := ⟨its, a, b⟩) hn hb r3
  rw [e] at e2 r1
  have ht := h.tot
  rw [e2] at ht
  refine ⟨⟨?_, ?_, r1, hb, ?_⟩, by rw [e2]; rfl⟩
  · rw [List.map_append, List.map_append, h.told, ← List.append_assoc]; simp [hz]
  · rw [ht]; simp
  · have := (List.dropWhile_sublist (fun x : It => decide (x.t < a + stR (r.nx a b))) (l := its)).length_le
    have h2 := h.sub
    show (cutT _ _).length ≤ _
    unfold cutT
    omega
theorem TlP.last (h : TlP r R line zs0 tot its a b zs done ℓ) (hs : its = [] ∨ line < b) : tot = (done, ⟨its, a, b⟩) := by
  have := h.tot
  rw [tellLn_none (l := ⟨its, a, b⟩) hs] at this
  simpa using this
end
theorem res_call {E O O1 : Nat → Prop} {w wr : World} {L lo y H1 : Nat} {cur : Array Value} {r : Lr} {V0 V : Value} {its : List It} {a b : Int} {zs : List Rz} (h : TlM E O w L lo cur r V0 y its a b O1 V zs wr) (hc : LnC cur lo r)
    (hq : mayQ r.q.kind r.q.agg r.q.size r.q.slide r.q.bs r.q.rank = true) (hb : Ints w r.B r.q.bs.length r.q.bs) (hfar : ∀ ad, r.B = some ad → E ad.block ∧ ad.block ≠ L ∧ ¬ O ad.block) (hx : ∀ x, x ∈ its → itemB x = true ∧ x.s = r.s) (hn : its.length ≤ 8192) (h0 : its ≠ [])
    (hV : ∀ k, V0.ownBlock = some k → ¬ E k) (hH : Has wr H1 3 (ints (foldA r.q.bs its).h)) :
    Calls Tryz.prog 143 #[.pointer (some ⟨L, lo, none⟩), .agg #[.int .i64 a, .int .i64 b], .agg (accC (foldA r.q.bs its) (some ⟨H1, 0, none⟩) (foldA r.q.bs its).h.length (foldA r.q.bs its).h.length)] wr fun e w' => ∃ A n c, e = .returned (.agg (rslC r.k r.s a b (tolV r.q (foldA r.q.bs its)) (tolO r.q (foldA r.q.bs its)) A n c)) ∧ OutP w' (tolH r.q (foldA r.q.bs its)) wr.heap.size A n c ∧ Below wr.heap.size wr w' := by
  obtain ⟨hbd, hg, _⟩ := bounds_ofQ hq
  have h8 := (boundsB_true hbd).1
  have hl : (foldA r.q.bs its).h.length = r.q.bs.length + 1 := (fit_part (m := r.q.bs.length + 1) (join_fit its hx hn).1).len
  have hB : Ints wr r.B r.q.bs.length r.q.bs := hb.butO h.kp fun ad e => by
    obtain ⟨f1, f2, f3⟩ := hfar ad e
    rintro (h4 | h4 | h4)
    · exact f3 h4
    · exact f2 h4
    · exact hV _ h4 f1
  exact aresult_any _ L lo _ (r.nx a b) a b _ _ _ _ _ _ _ wr h.lw (hc.put a b) fun w' hw' => val_any r.q r.B r.q.bs.length r.d _ _ _ _ w' (hB.below hw') (by unfold maxLen; omega) (ints_of_has (hH.below hw' hH.lt) rfl) (by unfold maxLen; omega) (ask_ones hq hx hn h0) hg
set_option maxRecDepth 100000 in
set_option maxHeartbeats 1000000 in
theorem ltell_any (E O : Nat → Prop) (L lo : Nat) (cur : Array Value) (r : Lr) (V0 : Value) (zs0 : List Rz) (its : List It) (R : List It) (ℓ line : Int) (w : World)
    (hw : Has w L LT cur) (hc : LnC cur lo r) (hp : PQ O r.g r.q.bs (ones r.q.bs its) w) (hZ : OutZ (fun k => E k ∨ O k) w V0 zs0) (c : TlC E O w L) (hb : Ints w r.B r.q.bs.length r.q.bs) (hfar : ∀ ad, r.B = some ad → E ad.block ∧ ad.block ≠ L ∧ ¬ O ad.block)
    (hq : mayQ r.q.kind r.q.agg r.q.size r.q.slide r.q.bs r.q.rank = true) (hI : LnI r.q.kind r.q.size r.q.slide r.s R ℓ ⟨its, r.a, r.b⟩) (hR : ∀ x, x ∈ R → itemB x = true ∧ x.s = r.s) (hn : its.length ≤ 8192) (hl : ℓ ≤ line) (hcap : zs0.length + 524288 ≤ 1073741824) :
    Calls Tryz.prog 111 #[.pointer (some ⟨L, lo, none⟩), .int .i64 line, V0] w fun e w' => ∃ O' V zs, e = .returned V ∧ LtE E O w L lo cur r V0 zs0 (tellLn r.k r.q.kind r.q.size r.q.slide line ⟨its, r.a, r.b⟩).2 (tellLn r.k r.q.kind r.q.size r.q.slide line ⟨its, r.a, r.b⟩).1 O' V zs w' := by
  obtain ⟨hbd, _, _⟩ := bounds_ofQ hq
  have hits : ∀ x, x ∈ its → itemB x = true ∧ x.s = r.s := fun x hx => hR x (lnI_its hI x hx)
  have hJ := rowJ_ones hbd hits hn
  have hol : (ones r.q.bs its).length = its.length := by simp [ones]
  have HLEN : Hid (Calls Tryz.prog 112 #[.pointer (some ⟨r.g, 0, none⟩)] w fun e w' => e = .returned (.int .i64 (its.length : Nat)) ∧ ∃ k, w' = w.drewN k) := by
    have := hp.len (by rw [hol]; omega)
    rw [hol] at this
    exact this
  have HW := Lib.hid hw
  have HC := Lib.hid hc
  have HP := Lib.hid hp
  have HZ := Lib.hid hZ
  have HTC := Lib.hid c
  have HIB := Lib.hid hb
  have HFAR := Lib.hid hfar
  have HQ := Lib.hid hq
  have HI := Lib.hid hI
  have HV : Hid (∀ k, V0.ownBlock = some k → ¬ E k) := fun k hk e => hZ.off k hk (.inl e)
  have HR := Lib.hid hR
  have HJ := Lib.hid hJ
  have c8 : ∀ k, (w.drewN k).cell? ⟨L, lo + 8, none⟩ = some (.pointer (some ⟨r.g, 0, none⟩)) := fun k => ((hw.drewN k).cell _).trans hc.c8
  have c8' : w.cell? ⟨L, lo + 8, none⟩ = some (.pointer (some ⟨r.g, 0, none⟩)) := (hw.cell _).trans hc.c8
  have c10 : ∀ k, (w.drewN k).cell? ⟨L, lo + 10, none⟩ = some (.int .i64 r.b) := fun k => ((hw.drewN k).cell _).trans hc.c10
  clear hw hc hp hZ c hb hfar hq hI hR hJ
  go_enter Tryz.func111, Tryz.ntmps111
  go_wp2_with fail
  refine HLEN.out.mono ?_
  rintro e w1 ⟨rfl, k1, rfl⟩
  by_cases h0 : its = []
  · have hN0 : ((its.length : Int) == 0) = true := by rw [h0]; rfl
    go_wp2_with fail
    go_ret
    exact ⟨O, V0, zs0, rfl, LtE.none HW.out HC.out HP.out HZ.out (.inl h0) k1⟩
  have hpos : 0 < its.length := List.length_pos_iff.2 h0
  have hN0 : ((its.length : Int) == 0) = false := by simp; omega
  have c10' : (w.drewN k1).cell? ⟨L, lo + 10, none⟩ = some (.int .i64 r.b) := c10 k1
  by_cases hs : line < r.b
  · go_wp2_with fail
    go_ret
    exact ⟨O, V0, zs0, rfl, LtE.none HW.out HC.out HP.out HZ.out (.inr hs) k1⟩
  have hs2 : ¬ r.b > line := hs
  have c8'' : (w.drewN k1).cell? ⟨L, lo + 8, none⟩ = some (.pointer (some ⟨r.g, 0, none⟩)) := c8 k1
  have HT : Hid (Calls Tryz.prog 142 #[.pointer (some ⟨r.g, 0, none⟩)] (w.drewN k1) (OutA (foldA r.q.bs its) (w.drewN k1))) := (HP.out.below (below_drewN (Below.refl _ _) k1)).total HJ.out (by rw [hol]; omega)
  go_upto_region 3 with fail
  go_wp2_with fail
  refine HT.out.mono ?_
  rintro e w2 ⟨H, _, rfl, hH, hb2⟩
  have TM := Lib.hid (TlM.start HTC.out HW.out HC.out HP.out HZ.out ((below_drewN (Below.refl _ _) k1).trans hb2) hH)
  have TP : Hid (TlP r R line zs0 (tellLn r.k r.q.kind r.q.size r.q.slide line ⟨its, r.a, r.b⟩) its r.a r.b zs0 [] ℓ) := Lib.hid ⟨by simp, by simp, HI.out, hl, hn⟩
  have HCAP : Hid ((tellLn r.k r.q.kind r.q.size r.q.slide line ⟨its, r.a, r.b⟩).1.length ≤ 524288) := by
    have := tell_cap (k := r.k) (qnOk HQ.out) (fun _ => (stepQ_bd HQ.out).2.2.2.2) HI.out hl
    have h2 : (Ln.mk its r.a r.b).its.length ≤ 8192 := hn
    exact Lib.hid (by omega)
  clear hH hb2 HT c8 c8' c8'' c10 c10' HW HP HZ HLEN HJ hits hol hpos hN0 h0 hs hs2
  go_wp2_with (refine store_made rfl _ _ rfl rfl rfl rfl ?_)
  go_frame
  generalize hTOT : tellLn r.k r.q.kind r.q.size r.q.slide line ⟨its, r.a, r.b⟩ = tot at TP HCAP
  generalize hY : w2.heap.size = y at TM ⊢
  go_loopg [2] tot.1.length (fun gk v wr => ∃ its1 a b O1 V zs done ℓ1, v = V ∧ Hid (TlM E O w L lo cur r V0 y its1 a b O1 V zs wr) ∧ Hid (TlP r R line zs0 tot its1 a b zs done ℓ1) ∧ gk = (tellLn r.k r.q.kind r.q.size r.q.slide line ⟨its1, a, b⟩).1.length)
  case atStart => exact ⟨its, r.a, r.b, O, V0, zs0, [], ℓ, rfl, TM, TP, by rw [hTOT]⟩
  case round =>
    obtain ⟨its1, a, b, O1, V, zs, done, ℓ1, rfl, TM1, TP1, hgk⟩ := hrel
    have cy : wr.cell? ⟨y, 0, none⟩ = some (.int .i64 (its1.length : Nat)) := by
      obtain ⟨H1, h1, _⟩ := TM1.out.acc
      have := h1.cell 0
      rw [this, ← foldA_n r.q.bs its1]; rfl
    have cb : wr.cell? ⟨L, lo + 10, none⟩ = some (.int .i64 b) := (TM1.out.lw.cell _).trans (HC.out.put a b).c10
    by_cases hs : its1 = [] ∨ line < b
    · have HX : Hid (LtE E O w L lo cur r V0 zs0 tot.2 tot.1 O1 u2 zs wr) := by
        rw [TP1.out.last hs]
        exact ⟨TM1.out.lw, TM1.out.pq, TM1.out.out, TP1.out.told, TM1.out.oin, TM1.out.kp, TM1.out.vb⟩
      by_cases h1 : its1 = []
      · have hz : ¬ (0 : Int) < (its1.length : Nat) := by rw [h1]; decide
        clear TM1 TP1
        go_wp2_with fail
        go_ret
        exact ⟨O1, u2, rfl, zs, HX⟩
      · have hz : (0 : Int) < (its1.length : Nat) := by have := List.length_pos_iff.2 h1; omega
        have hb1 : ¬ b ≤ line := by rcases hs with hs | hs; exact absurd hs h1; omega
        clear TM1 TP1
        go_wp2_with fail
        go_ret
        exact ⟨O1, u2, rfl, zs, HX⟩
    · have h1 : its1 ≠ [] := fun e => hs (.inl e)
      have hb1 : b ≤ line := by have := fun e => hs (.inr e); omega
      have hz : (0 : Int) < (its1.length : Nat) := by have := List.length_pos_iff.2 h1; omega
      obtain ⟨H1, hA1, hH1⟩ := TM1.out.acc
      have HA1 := Lib.hid hA1
      have HH1 := Lib.hid hH1
      have HN1 := Lib.hid (TM1.out.lim HTC.out)
      clear hA1 hH1
      go_upto_region 5 with fail
      have HRES : Hid (∀ w', Below wr.heap.size wr w' → _) := Lib.hid fun w' hb => res_call (TM1.out.below hb) HC.out HQ.out HIB.out HFAR.out (fun x hx => HR.out x (lnI_its TP1.out.inv x hx)) TP1.out.sub h1 HV.out (HH1.out.below hb HH1.out.lt)
      refine lte5_any (T0 := LT) (L := L) (lo := lo) (cur := laneA cur lo a b) (r := r.nx a b) (y := y) (z := wr.heap.size) (k := (foldA r.q.bs its1).h.length) (c := (foldA r.q.bs its1).h.length) (A := some ⟨H1, 0, none⟩) (u := foldA r.q.bs its1) (V := u2) (sa := a) (sb := b) (v := tolV r.q (foldA r.q.bs its1)) (oo := tolO r.q (foldA r.q.bs its1)) (hs := tolH r.q (foldA r.q.bs its1)) ⟨rfl, rfl, rfl, rfl, TM1.out.lw, HC.out.put a b, rfl, rfl, Nat.le_refl _, HA1.out, HRES.out⟩ (by kernel_rfl) ?_
      intro A50 n50 c50 g3 A3 c3 w3 hb3 _ hp51
      have HM0 := Lib.hid hp51.1
      have HO3 := Lib.hid hp51.2
      simp only [putAll, Act.put, List.setIfInBounds_toArray, List.set_cons_succ, List.set_cons_zero, List.drop_succ_cons, List.drop_zero]
      have HVAL : Hid (∀ A c, (Rz.mk r.k r.s a b (tolV r.q (foldA r.q.bs its1)) (tolO r.q (foldA r.q.bs its1)) (tolH r.q (foldA r.q.bs its1)) A c).val = valW r.q r.s ⟨r.k, a, b, its1⟩) := fun _ _ => rfl
      have TM3 := Lib.hid (TM1.out.below hb3)
      clear hp51 hb3 HRES HA1 HH1 cy cb TM1
      generalize tolV r.q (foldA r.q.bs its1) = v1 at HVAL HM0 ⊢
      generalize tolO r.q (foldA r.q.bs its1) = o1 at HVAL HM0 ⊢
      generalize tolH r.q (foldA r.q.bs its1) = h3 at HVAL HO3 HM0 ⊢
      have HZ3 : Hid (OwnZ w3 u2 zs) := TM3.out.out.row
      have HM3 : Hid (Has w3 g3 71 (rzC ⟨r.k, r.s, a, b, v1, o1, h3, A3, c3⟩)) := HM0.out
      have hcap1 : zs.length ≤ 1073741824 := by
        have e1 := congrArg List.length TP1.out.told
        have e2 := congrArg (fun p : List Wn × Ln => p.1.length) TP1.out.tot
        have e3 := HCAP.out
        simp only [List.length_map, List.length_append] at e1 e2
        omega
      go_wp2_with (at_builtin; refine app_rsl rfl _ _ rfl rfl HZ3.out rfl HM3.out hcap1 ?_; intro V4 w4 hr4 hg4 hv4)
      have TM4 := Lib.hid (TM3.out.app HTC.out hr4 hg4 hv4 (HO3.out.2.2.2.mono (Nat.zero_le _)) (fun k hk hN => by
        have h5 := HN1.out k hN
        have h6 := own_base HO3.out.2.2.2 hk
        omega))
      obtain ⟨TP5, hlen⟩ := TP1.out.step (qnOk HQ.out) h1 hb1 (HVAL.out A3 c3)
      have HRG := Lib.hid (lnI_range (qnOk HQ.out) (stepQ_bd HQ.out).2.2.2.1 TP1.out.inv (fun x hx => item_time (HR.out x hx).1) h1)
      clear hr4 hg4 hv4 HZ3 HM3 TM3 HO3 HM0 HVAL HN1
      go_wp2_with fail
      refine (lstep_any L lo _ (r.nx a b) w4 TM4.out.lw (HC.out.put a b) ?_ ?_ ?_).mono ?_
      · have := HRG.out; show _ ≤ b - a ∧ b - a ≤ _; omega
      · have := HRG.out
        have e : stR (r.nx a b) = (Ln.mk its1 a b).st r.q.kind r.q.size r.q.slide := rfl
        rw [e]
        show _ ≤ a + _ ∧ a + _ ≤ _
        omega
      · have := HRG.out
        have e : stR (r.nx a b) = (Ln.mk its1 a b).st r.q.kind r.q.size r.q.slide := rfl
        rw [e]
        show _ ≤ b + _ ∧ b + _ ≤ _
        omega
      rintro e w5 ⟨rfl, h5, b5⟩
      rw [lane_twice] at h5
      have TM5 : Hid (TlM E O w L lo cur r V0 y its1 (a + stR (r.nx a b)) (b + stR (r.nx a b)) O1 V4 (zs ++ [⟨r.k, r.s, a, b, v1, o1, h3, A3, c3⟩]) w5) := TM4.out.step HTC.out h5 b5
      have HTI := Lib.hid (lnI_times TP1.out.inv)
      have HX1 : Hid (∀ x, x ∈ its1 → itemB x = true ∧ x.s = r.s) := Lib.hid fun x hx => HR.out x (lnI_its TP1.out.inv x hx)
      have HS1 := Lib.hid TP1.out.sub
      have HP5 := Lib.hid TP5
      clear h5 b5 TM4 HRG TP1 TP5 TM TP hs hb1 hcap1 hz
      generalize zs ++ [⟨r.k, r.s, a, b, v1, o1, h3, A3, c3⟩] = zsn at TM5 HP5
      generalize done ++ [⟨r.k, a, b, its1⟩] = dn at HP5
      generalize b + stR (r.nx a b) = b1 at TM5 HP5 hlen
      generalize a + stR (r.nx a b) = a1 at TM5 HP5 hlen
      obtain ⟨go, hgo⟩ : ∃ go, go = (tellLn r.k r.q.kind r.q.size r.q.slide line ⟨cutT a1 its1, a1, b1⟩).1.length := ⟨_, rfl⟩
      have hgm : go < gk := by omega
      clear hgk hlen
      go_wp2_with fail
      go_loopg [] its1.length (fun gi wr2 => ∃ its2 O2, Hid (TlM E O w L lo cur r V0 y its2 a1 b1 O2 V4 zsn wr2) ∧ Hid (cutT a1 its2 = cutT a1 its1) ∧ Hid (∀ x, x ∈ its2 → x ∈ its1) ∧ Hid (Times its2) ∧ gi = its2.length ∧ its2.length ≤ its1.length)
      case atStart => exact ⟨its1, O1, TM5, Lib.hid rfl, Lib.hid fun _ h => h, HTI, rfl, Nat.le_refl _⟩
      case round =>
        obtain ⟨its2, O2, TM6, HE6, HX6, HT6, hgi, hlen6⟩ := hrel
        have ca : ∀ k, (wr.drewN k).cell? ⟨L, lo + 9, none⟩ = some (.int .i64 a1) := fun k => ((TM6.out.lw.drewN k).cell _).trans (HC.out.put a1 b1).c9
        cases its2 with
        | nil =>
          have cy : ∀ k, (wr.drewN k).cell? ⟨y, 0, none⟩ = some (.int .i64 0) := fun k => by
            obtain ⟨H2, h2, _⟩ := TM6.out.acc
            exact (h2.drewN k).cell 0
          have TM7 : Hid (∀ k, TlM E O w L lo cur r V0 y (cutT a1 its1) a1 b1 O2 V4 zsn (wr.drewN k)) := fun k => by
            rw [← HE6.out]; exact TM6.out.below (below_drewN (Below.refl _ _) k)
          clear TM6
          go_wp2_with fail
          go_quiet (fail)
          go_wp2_with fail
          go_roundg go
          case measure => exact hgm
          case rel => exact ⟨_, a1, b1, O2, V4, zsn, dn, b, rfl, TM7.out _, HP5, hgo⟩
        | cons x rest =>
          have hz : (0 : Int) < ((x :: rest).length : Nat) := by simp only [List.length_cons]; omega
          have hzb : decide ((0 : Int) < ((rest.length + 1 : Nat) : Int)) = true := decide_eq_true (by omega)
          have hst : Times (x :: rest) := HT6.out
          have cy : ∀ k, (wr.drewN k).cell? ⟨y, 0, none⟩ = some (.int .i64 ((rest.length + 1 : Nat) : Int)) := fun k => by
            obtain ⟨H2, h2, _⟩ := TM6.out.acc
            have h3 := (h2.drewN k).cell 0
            rw [h3]
            show some (Value.int .i64 (foldA r.q.bs (x :: rest)).n) = _
            rw [foldA_n, List.length_cons]
          have cf : ∀ k, (wr.drewN k).cell? ⟨y, 5, none⟩ = some (.int .i64 x.t) := fun k => by
            obtain ⟨H2, h2, _⟩ := TM6.out.acc
            have h3 := (h2.drewN k).cell 5
            rw [h3]
            show some (Value.int .i64 (foldA r.q.bs (x :: rest)).f.t) = _
            rw [foldA_ft hst]
          by_cases hx : x.t < a1
          · have hxb : decide (x.t < a1) = true := decide_eq_true hx
            have c8 : ∀ k, (wr.drewN k).cell? ⟨L, lo + 8, none⟩ = some (.pointer (some ⟨r.g, 0, none⟩)) := fun k => ((TM6.out.lw.drewN k).cell _).trans (HC.out.put a1 b1).c8
            go_wp2_with fail
            go_quiet (fail)
            have HB7 : Hid (Below wr.heap.size wr (wr.drewN nq)) := below_drewN (Below.refl _ _) nq
            have TM7 := Lib.hid (TM6.out.below HB7.out)
            have hJ7 : RowJ r.q.bs (oneAc x r.q.bs :: ones r.q.bs rest) := rowJ_ones (xs := x :: rest) (bounds_ofQ HQ.out).1 (fun z hz => HX1.out z (HX6.out z hz)) (by have := HS1.out; omega)
            have HJ7 := Lib.hid hJ7
            have hl7 : (oneAc x r.q.bs :: ones r.q.bs rest).length ≤ 65535 := by simp [ones]; simp only [List.length_cons] at hlen6; have := HS1.out; omega
            have HPO := Lib.hid (TM7.out.pq.pop hJ7 hl7)
            clear hJ7 TM6
            go_wp2_with fail
            refine HPO.out.mono ?_
            rintro e w8 ⟨hh8, cc8, rfl, _, hg8, hb8, hq8⟩
            have c88 : w8.cell? ⟨L, lo + 8, none⟩ = some (.pointer (some ⟨r.g, 0, none⟩)) := ((TM7.out.lw.butO hb8 (HTC.out.nl TM7.out)).cell _).trans (HC.out.put a1 b1).c8
            have HQ8 : Hid (PQ (fun k => GrowO O2 (wr.drewN nq) w8 k ∧ k ≠ hh8) r.g r.q.bs (ones r.q.bs rest) w8) := hq8
            have HB8 := Lib.hid hb8
            have HT8 : Hid (Calls Tryz.prog 142 #[.pointer (some ⟨r.g, 0, none⟩)] w8 (OutA (foldA r.q.bs rest) w8)) := HQ8.out.total (RowJ.tail HJ7.out) (by simp only [List.length_cons] at hl7; omega)
            clear hq8 hb8 HPO
            go_wp2_with fail
            refine HT8.out.mono ?_
            rintro e w9 ⟨H9, _, rfl, hH9, hb9⟩
            obtain ⟨TM9, hy9⟩ := TM7.out.popped HTC.out HQ8.out (fun k hk => hk.1) HB8.out hH9 hb9
            have HTM9 := Lib.hid TM9
            clear TM9 hH9 hb9 HT8 c88
            go_wp2_with (refine store_has rfl _ _ rfl y (ac := foldA r.q.bs rest) (A := some ⟨H9, 0, none⟩) (k := (foldA r.q.bs rest).h.length) (c := (foldA r.q.bs rest).h.length) rfl rfl hy9 rfl ?_)
            go_roundg rest.length
            case measure => rw [hgi, List.length_cons]; omega
            case rel =>
              refine ⟨rest, _, HTM9, Lib.hid ?_, Lib.hid fun z hz => HX6.out z (List.mem_cons_of_mem _ hz), Lib.hid (List.pairwise_cons.1 hst).2, rfl, by simp only [List.length_cons] at hlen6; omega⟩
              rw [← HE6.out]
              unfold cutT
              rw [List.dropWhile_cons_of_pos (by simpa using hx)]
          · have hxb : decide (x.t < a1) = false := decide_eq_false hx
            have hcut : cutT a1 its1 = x :: rest := by
              rw [← HE6.out]
              unfold cutT
              rw [List.dropWhile_cons_of_neg (by simp [hx])]
            have TM7 : Hid (∀ k, TlM E O w L lo cur r V0 y (cutT a1 its1) a1 b1 O2 V4 zsn (wr.drewN k)) := fun k => by
              rw [hcut]; exact TM6.out.below (below_drewN (Below.refl _ _) k)
            clear TM6
            go_wp2_with fail
            go_quiet (fail)
            go_wp2_with fail
            go_roundg go
            case measure => exact hgm
            case rel => exact ⟨_, a1, b1, O2, V4, zsn, dn, b, rfl, TM7.out _, HP5, hgo⟩
end Go.Proofs.YtbpaepkcchpmbaaGreat
namespace Go.Proofs.YtbpaepkcchpmbaaGreat
open Go.RowKit
def laneC (r : Lr) : Array Value := (laneL r).toArray
theorem laneC_eq (r : Lr) : laneC r = #[.int .i64 r.q.kind, .int .i64 r.q.agg, .int .i64 r.q.size, .int .i64 r.q.slide, .slice r.B r.q.bs.length r.d, .int .i64 r.q.rank, .int .i64 r.k, .int .i64 r.s, .pointer (some ⟨r.g, 0, none⟩), .int .i64 r.a, .int .i64 r.b] := rfl
theorem laneC_one (r : Lr) : (laneC r).all (·.oneCell') = true := by simp [laneC_eq, Value.oneCell']
theorem Tryz.sizeLane : (Tryz.prog.info? 173).map (·.size) = some 11 := by kernel_rfl
def askC (k s : Int) (q : Qu) (B : Option Addr) (d : Nat) : Array Value := #[.int .i64 q.kind, .int .i64 q.agg, .int .i64 q.size, .int .i64 q.slide, .slice B q.bs.length d, .int .i64 q.rank, .int .i64 k, .int .i64 s]
abbrev AkT : TypeId := 170
theorem run_ask (k s : Int) (q : Qu) (B : Option Addr) (d : Nat) (w : World) : (Instr.build 170 #[(0, .agg (quC q B q.bs.length d)), (1, .int .i64 k), (2, .int .i64 s)]).run Tryz.prog w = .ok (.agg (askC k s q B d)) w := by kernel_rfl
theorem build_ask {ops : Array Oper} {rest : List Oper} {op : Oper} {a : Act} {w : World} {Q : Exit → Act → World → Prop} (hgd : op.guard = none) (x y z : Operand) (ho : op.op = .build 170 #[(0, x), (1, y), (2, z)]) (k s : Int) (q : Qu) (B : Option Addr) (d : Nat)
    (hx : a.eval x = .agg (quC q B q.bs.length d)) (hy : a.eval y = .int .i64 k) (hz : a.eval z = .int .i64 s)
    (h : wpList Tryz.prog ops Q rest (a.put op.dst (.agg (askC k s q B d))) w) : wpList Tryz.prog ops Q (op :: rest) a w := by
  refine wpList_plain hgd fun _ hK => ?_
  unfold Oper.wp execOp
  rw [ho]
  generalize a.eval = ev at hx hy hz ⊢
  simp only [List.map_toArray, List.map_cons, List.map_nil, hx, hy, hz, Sem.run_bind, run_ask, Result.andThen_ok]
  exact hK _ _ h
theorem load_akH {ops : Array Oper} {rest : List Oper} {op : Oper} {a : Act} {w : World} {Q : Exit → Act → World → Prop} (hgd : op.guard = none) (x : Operand) (ho : op.op = .load 170 x) (g : Nat) (hx : a.eval x = .pointer (some ⟨g, 0, none⟩)) {k s : Int} {q : Qu} {B : Option Addr} {d : Nat} (hc : Has w g AkT (askC k s q B d))
    (h : wpList Tryz.prog ops Q rest (a.put op.dst (.agg (askC k s q B d))) w) : wpList Tryz.prog ops Q (op :: rest) a w :=
  wpList_load_row hgd 170 x ho g hx AkT _ (0, 0) _ hc Tryz.underlying170 rfl (by kernel_rfl) h
theorem run_lane (k s : Int) (q : Qu) (B : Option Addr) (d g : Nat) (w : World) : (Instr.build 173 #[(0, .agg (askC k s q B d)), (1, .pointer (some ⟨g, 0, none⟩))]).run Tryz.prog w = .ok (.agg (laneC ⟨k, q, B, d, s, g, 0, 0⟩)) w := by kernel_rfl
theorem build_lane {ops : Array Oper} {rest : List Oper} {op : Oper} {a : Act} {w : World} {Q : Exit → Act → World → Prop} (hgd : op.guard = none) (x u : Operand) (ho : op.op = .build 173 #[(0, x), (1, u)]) (k s : Int) (q : Qu) (B : Option Addr) (d g : Nat)
    (hx : a.eval x = .agg (askC k s q B d)) (hu : a.eval u = .pointer (some ⟨g, 0, none⟩))
    (h : wpList Tryz.prog ops Q rest (a.put op.dst (.agg (laneC ⟨k, q, B, d, s, g, 0, 0⟩))) w) : wpList Tryz.prog ops Q (op :: rest) a w := by
  refine wpList_plain hgd fun _ hK => ?_
  unfold Oper.wp execOp
  rw [ho]
  generalize a.eval = ev at hx hu ⊢
  simp only [List.map_toArray, List.map_cons, List.map_nil, hx, hu, Sem.run_bind, run_lane, Result.andThen_ok]
  exact hK _ _ h
theorem store_lane {ops : Array Oper} {rest : List Oper} {op : Oper} {a : Act} {w : World} {Q : Exit → Act → World → Prop} (hgd : op.guard = none) (x y : Operand) (ho : op.op = .store 173 x y)
    (g : Nat) {r : Lr} {old : Array Value} (hx : a.eval x = .pointer (some ⟨g, 0, none⟩)) (hy : a.eval y = .agg (laneC r)) (hg : Has w g LT old) (hold : old.size = 11)
    (h : wpList Tryz.prog ops Q rest (a.put op.dst undef) (w.setRow g (laneC r))) : wpList Tryz.prog ops Q (op :: rest) a w :=
  wpList_store_row hgd 173 x y ho g _ hx hy LT old hg Tryz.sizeLane hold (laneC_one r) h
theorem load_quH {ops : Array Oper} {rest : List Oper} {op : Oper} {a : Act} {w : World} {Q : Exit → Act → World → Prop} (hgd : op.guard = none) (x : Operand) (ho : op.op = .load 59 x) (g : Nat) (hx : a.eval x = .pointer (some ⟨g, 0, none⟩)) {q : Qu} {B : Option Addr} {m d : Nat} (hc : Has w g 59 (quC q B m d))
    (h : wpList Tryz.prog ops Q rest (a.put op.dst (.agg (quC q B m d))) w) : wpList Tryz.prog ops Q (op :: rest) a w :=
  wpList_load_row hgd 59 x ho g hx 59 _ (0, 0) _ hc Tryz.underlying59 rfl (by kernel_rfl) h
set_option maxRecDepth 100000 in
set_option maxHeartbeats 2000000 in
theorem newlane_any (k s : Int) (q : Qu) (B : Option Addr) (d : Nat) (w : World) (hb : Ints w B q.bs.length q.bs) (hnil : B = none → d = 0) (hbd : boundsB q.bs = true) :
    Calls Tryz.prog 140 #[.agg (askC k s q B d)] w fun e w' => ∃ g, e = .returned (.agg (laneC ⟨k, q, B, d, s, g, 0, 0⟩)) ∧ PQ (fun j => w.heap.size ≤ j ∧ j < w'.heap.size) g q.bs [] w' ∧ Below w.heap.size w w' := by
  have HB2 : Hid (∀ o1 o2, Below w.heap.size w ((w.alloc o1).alloc o2)) := fun o1 o2 => below_alloc ((Below.refl _ _).alloc (Nat.le_refl _) _) (Nat.le_refl _) _
  have HIB := Lib.hid hb
  have HNIL := Lib.hid hnil
  have HBD := Lib.hid hbd
  clear hb hnil hbd
  go_enter Tryz.func140, Tryz.ntmps140
  go_upto_region 1 with fail
  have HX : Hid (∀ cs, Has ((w.alloc (.cells (askC k s q B d) AkT)).alloc (.cells cs LT)) w.heap.size AkT (askC k s q B d)) := fun cs => (Has.made w _ _).alloc _
  have HR : Hid (∀ cs, Has ((w.alloc (.cells (askC k s q B d) AkT)).alloc (.cells cs LT)) (w.heap.size + 1) LT cs) := fun cs => by
    have := Has.made (w.alloc (.cells (askC k s q B d) AkT)) LT cs
    have e : (w.alloc (.cells (askC k s q B d) AkT)).heap.size = w.heap.size + 1 := by simp
    rw [e] at this; exact this
  have c4 : ∀ cs, ((w.alloc (.cells (askC k s q B d) AkT)).alloc (.cells cs LT)).cell? ⟨w.heap.size, 4, none⟩ = some (.slice B q.bs.length d) := fun cs => (HX.out cs).cell 4
  go_wp2_with fail
  generalize hc0 : (#[Value.int IntKind.i64 0, Value.int IntKind.i64 0, Value.int IntKind.i64 0, Value.int IntKind.i64 0, Value.slice none 0 0, Value.int IntKind.i64 0, Value.int IntKind.i64 0, Value.int IntKind.i64 0, Value.pointer none, Value.int IntKind.i64 0, Value.int IntKind.i64 0] : Array Value) = c0
  have HX1 := Lib.hid (HX.out c0)
  have HR1 := Lib.hid (HR.out c0)
  have HB1 := Lib.hid (HB2.out (.cells (askC k s q B d) AkT) (.cells c0 LT))
  have hold : c0.size = 11 := by rw [← hc0]; rfl
  clear hc0
  clear HX HR HB2 c4
  generalize (w.alloc (.cells (askC k s q B d) AkT)).alloc (.cells c0 LT) = w1 at HX1 HR1 HB1 ⊢
  refine (qnew_ok B q.bs.length d q.bs w1 (HIB.out.below HB1.out) HNIL.out HBD.out).mono ?_
  intro e w2 hN
  obtain ⟨g, rfl, hp, hb2⟩ := pq_new hN
  have HX2 := Lib.hid (HX1.out.below hb2 HX1.out.lt)
  have HR2 := Lib.hid (HR1.out.below hb2 HR1.out.lt)
  have HB2 := Lib.hid (HB1.out.trans (hb2.mono HB1.out.size))
  have HP2 := Lib.hid hp
  clear hN hp
  go_wp2_with (first | (refine load_akH rfl _ rfl w.heap.size rfl HX2.out ?_) | (refine build_lane rfl _ _ rfl k s q B d g rfl rfl ?_) | (refine store_lane rfl _ _ rfl (w.heap.size + 1) (r := ⟨k, q, B, d, s, g, 0, 0⟩) rfl rfl HR2.out hold ?_))
  refine bodyPost_ret (ret_rowA rfl _ _ _ LT (laneC ⟨k, q, B, d, s, g, 0, 0⟩) _ rfl (HR2.out.row _) Tryz.underlying173 rfl (by exact Tryz.sizeLane)) rfl ?_
  refine ⟨g, rfl, (HP2.out.same (w' := w2.setRow (w.heap.size + 1) (laneC ⟨k, q, B, d, s, g, 0, 0⟩)) fun j hj => setRow_other _ _ _ _ fun e => ?_).mono fun j hj ho => ⟨?_, ?_⟩, below_row HB2.out (by omega) _⟩
  · have := HR1.out.lt; omega
  · have := HB1.out.size; omega
  · simp; exact ho.2
end Go.Proofs.YtbpaepkcchpmbaaGreat
namespace Go.Proofs.YtbpaepkcchpmbaaGreat
open Go.RowKit
abbrev RT : TypeId := 130
structure LX where
  r : Lr
  its : List It
  O : Nat → Prop
def LX.ln (x : LX) : Ln := ⟨x.its, x.r.a, x.r.b⟩
theorem ownIt_has {w : World} {base : Nat} {v : Value} {ys : List It} (h : OwnIt w base v ys) {k : Nat} (hk : v.ownBlock = some k) : ∃ cur, Has w k 61 cur := by
  rcases h.2 with ⟨e, _⟩ | ⟨g, cap, cur, e, hg, hh, _⟩
  · rw [e] at hk; simp [Value.ownBlock] at hk
  · rw [e] at hk
    obtain rfl : g = k := by simpa [Value.ownBlock] using hk
    exact ⟨cur, hh⟩
structure RowX (w : World) (g : Nat) (V : Value) (L : Nat) (its : List It) (xs : List LX) : Prop where
  st : Has w g RT #[V, .slice (some ⟨L, 0, none⟩) xs.length xs.length]
  iv : OwnIt w 0 V its
  lw : Has w L LT (rowLn (xs.map (·.r))).toArray
  pq : ∀ x, x ∈ xs → PQ x.O x.r.g x.r.q.bs (ones x.r.q.bs x.its) w
  lim : ∀ x, x ∈ xs → ∀ k, x.O k → k < w.heap.size
  dis : xs.Pairwise fun x y => ∀ k, x.O k → ¬ y.O k
  off : ∀ x, x ∈ xs → ∀ k, x.O k → k ≠ g ∧ k ≠ L ∧ V.ownBlock ≠ some k
def RowU (g : Nat) (V : Value) (L : Nat) (xs : List LX) : Nat → Prop := fun k => k = g ∨ k = L ∨ V.ownBlock = some k ∨ ∃ x, x ∈ xs ∧ x.O k
section
variable {w w' : World} {g L : Nat} {V : Value} {its : List It} {xs : List LX}
theorem RowX.lt (h : RowX w g V L its xs) : ∀ k, RowU g V L xs k → k < w.heap.size := fun k hk => by
  rcases hk with rfl | rfl | hk | ⟨x, hx, hk⟩
  · exact h.st.lt
  · exact h.lw.lt
  · obtain ⟨c, hc⟩ := ownIt_has h.iv hk; exact hc.lt
  · exact h.lim x hx k hk
theorem RowX.same (h : RowX w g V L its xs) (hs : w.heap.size ≤ w'.heap.size) (hk : ∀ k, RowU g V L xs k → w'.heap[k]? = w.heap[k]?) : RowX w' g V L its xs :=
  ⟨(hk g (.inl rfl)).trans h.st, h.iv.same fun k e => hk k (.inr (.inr (.inl e))), (hk L (.inr (.inl rfl))).trans h.lw, fun x hx => (h.pq x hx).same fun k e => hk k (.inr (.inr (.inr ⟨x, hx, e⟩))),
    fun x hx k e => Nat.lt_of_lt_of_le (h.lim x hx k e) hs, h.dis, h.off⟩
theorem RowX.below (h : RowX w g V L its xs) (hb : Below w.heap.size w w') : RowX w' g V L its xs := h.same hb.size fun k hk => hb.block k (h.lt k hk)
theorem RowX.setV {V' : Value} {its' : List It} (h : RowX w g V L its xs) (hst : Has w' g RT #[V', .slice (some ⟨L, 0, none⟩) xs.length xs.length]) (hv : OwnIt w' 0 V' its') (hb : ButO (fun k => k = g ∨ V.ownBlock = some k) w w')
    (hl : ∀ k, V'.ownBlock = some k → V.ownBlock = some k ∨ w.heap.size ≤ k) : RowX w' g V' L its' xs ∧ ∀ k, RowU g V' L xs k → RowU g V L xs k ∨ (w.heap.size ≤ k ∧ k < w'.heap.size) := by
  have hgL : L ≠ g := fun e => has_types h.st (e ▸ h.lw) (by decide)
  have hVL : V.ownBlock ≠ some L := fun e => by
    obtain ⟨c, hc⟩ := ownIt_has h.iv e
    exact has_types hc h.lw (by decide)
  have hn : ∀ x, x ∈ xs → ∀ k, x.O k → ¬ (k = g ∨ V.ownBlock = some k) := fun x hx k hk e => by
    obtain ⟨h1, _, h3⟩ := h.off x hx k hk
    rcases e with e | e
    · exact h1 e
    · exact h3 e
  refine ⟨⟨hst, hv, h.lw.butO hb (by rintro (e | e); exact hgL e; exact hVL e), fun x hx => (h.pq x hx).same fun k hk => hb.other k (h.lim x hx k hk) (hn x hx k hk), fun x hx k hk => Nat.lt_of_lt_of_le (h.lim x hx k hk) hb.size, h.dis, fun x hx k hk => ?_⟩, fun k hk => ?_⟩
  · obtain ⟨h1, h2, h3⟩ := h.off x hx k hk
    refine ⟨h1, h2, fun e => ?_⟩
    rcases hl k e with h4 | h4
    · exact h3 h4
    · have := h.lim x hx k hk; omega
  · rcases hk with hk | hk | hk | hk
    · exact .inl (.inl hk)
    · exact .inl (.inr (.inl hk))
    · rcases hl k hk with h4 | h4
      · exact .inl (.inr (.inr (.inl h4)))
      · obtain ⟨c, hc⟩ := ownIt_has hv hk
        exact .inr ⟨h4, hc.lt⟩
    · exact .inl (.inr (.inr (.inr hk)))
theorem RowX.setLane {O2 : Nat → Prop} {x x' : LX} {i : Nat} (h : RowX w g V L its xs) (hi : xs[i]? = some x) (hO : ∀ k, x'.O k → x.O k ∨ (w.heap.size ≤ k ∧ k < w'.heap.size)) (hp : PQ x'.O x'.r.g x'.r.q.bs (ones x'.r.q.bs x'.its) w')
    (hl : Has w' L LT (rowLn ((xs.set i x').map (·.r))).toArray) (hb : ButO O2 w w') (hO2 : ∀ k, O2 k → k = L ∨ x.O k ∨ ¬ RowU g V L xs k) :
    RowX w' g V L its (xs.set i x') ∧ ∀ k, RowU g V L (xs.set i x') k → RowU g V L xs k ∨ (w.heap.size ≤ k ∧ k < w'.heap.size) := by
  have hlt := (List.getElem?_eq_some_iff.1 hi).1
  have hxe := (List.getElem?_eq_some_iff.1 hi).2
  have hxm : x ∈ xs := List.mem_of_getElem? hi
  have hsz := hb.size
  have hnot : ∀ k, RowU g V L xs k → k ≠ L → ¬ x.O k → ¬ O2 k := fun k hk h1 h2 e => by
    rcases hO2 k e with e | e | e
    · exact h1 e
    · exact h2 e
    · exact e hk
  have hgL : g ≠ L := fun e => has_types h.st (e ▸ h.lw) (by decide)
  have hVL : V.ownBlock ≠ some L := fun e => by
    obtain ⟨c, hc⟩ := ownIt_has h.iv e
    exact has_types hc h.lw (by decide)
  have hmem : ∀ z, z ∈ xs.set i x' → z = x' ∨ ∃ j, j ≠ i ∧ xs[j]? = some z := fun z hz => by
    obtain ⟨j, hj, e⟩ := List.mem_iff_getElem.1 hz
    by_cases hji : j = i
    · subst hji
      left; rw [← e, List.getElem_set_self]
    · right
      refine ⟨j, hji, ?_⟩
      rw [List.getElem_set_ne (fun e => hji e.symm)] at e
      rw [← e]
      exact List.getElem?_eq_getElem _
  have hoth : ∀ j z, j ≠ i → xs[j]? = some z → ∀ k, z.O k → ¬ x.O k := fun j z hj hz k hk hxk => by
    have hjl := (List.getElem?_eq_some_iff.1 hz).1
    have hze := (List.getElem?_eq_some_iff.1 hz).2
    rcases Nat.lt_or_gt_of_ne hj with h1 | h1
    · have := List.pairwise_iff_getElem.1 h.dis j i hjl hlt h1
      rw [hze, hxe] at this
      exact this k hk hxk
    · have := List.pairwise_iff_getElem.1 h.dis i j hlt hjl h1
      rw [hze, hxe] at this
      exact this k hxk hk
  refine ⟨⟨?_, ?_, hl, ?_, ?_, ?_, ?_⟩, ?_⟩
  · rw [List.length_set]
    exact h.st.butO hb (hnot g (.inl rfl) hgL fun e => (h.off x hxm g e).1 rfl)
  · exact h.iv.same fun k e => hb.other k (h.lt k (.inr (.inr (.inl e)))) (hnot k (.inr (.inr (.inl e))) (fun e2 => hVL (e2 ▸ e)) fun e2 => (h.off x hxm k e2).2.2 e)
  · intro z hz
    rcases hmem z hz with rfl | ⟨j, hj, hzj⟩
    · exact hp
    · have hzm := List.mem_of_getElem? hzj
      exact (h.pq z hzm).same fun k hk => hb.other k (h.lim z hzm k hk) (hnot k (.inr (.inr (.inr ⟨z, hzm, hk⟩))) (h.off z hzm k hk).2.1 (hoth j z hj hzj k hk))
  · intro z hz k hk
    rcases hmem z hz with rfl | ⟨j, hj, hzj⟩
    · rcases hO k hk with h1 | h1
      · have := h.lim x hxm k h1; omega
      · exact h1.2
    · have := h.lim z (List.mem_of_getElem? hzj) k hk; omega
  · refine List.pairwise_iff_getElem.2 fun p q hp1 hq1 hpq k hk hk2 => ?_
    have hp3 : p < xs.length := by rw [List.length_set] at hp1; exact hp1
    have hq3 : q < xs.length := by rw [List.length_set] at hq1; exact hq1
    by_cases hpi : p = i
    · subst hpi
      rw [List.getElem_set_self] at hk
      rw [List.getElem_set_ne (by omega)] at hk2
      have hq2 : xs[q]? = some xs[q] := List.getElem?_eq_getElem hq3
      rcases hO k hk with h1 | h1
      · exact hoth q _ (by omega) hq2 k hk2 h1
      · have := h.lim _ (List.mem_of_getElem? hq2) k hk2; omega
    · have hp2 : xs[p]? = some xs[p] := List.getElem?_eq_getElem hp3
      rw [List.getElem_set_ne (fun e => hpi e.symm)] at hk
      by_cases hqi : q = i
      · subst hqi
        rw [List.getElem_set_self] at hk2
        rcases hO k hk2 with h1 | h1
        · exact hoth p _ hpi hp2 k hk h1
        · have := h.lim _ (List.mem_of_getElem? hp2) k hk; omega
      · rw [List.getElem_set_ne (fun e => hqi e.symm)] at hk2
        exact List.pairwise_iff_getElem.1 h.dis p q hp3 hq3 hpq k hk hk2
  · intro z hz k hk
    rcases hmem z hz with rfl | ⟨j, hj, hzj⟩
    · rcases hO k hk with h1 | h1
      · exact h.off x hxm k h1
      · have e1 := h.st.lt
        have e2 := h.lw.lt
        refine ⟨by omega, by omega, fun e => ?_⟩
        have := h.lt k (.inr (.inr (.inl e)))
        omega
    · exact h.off z (List.mem_of_getElem? hzj) k hk
  · intro k hk
    rcases hk with hk | hk | hk | ⟨z, hz, hk⟩
    · exact .inl (.inl hk)
    · exact .inl (.inr (.inl hk))
    · exact .inl (.inr (.inr (.inl hk)))
    · rcases hmem z hz with rfl | ⟨j, hj, hzj⟩
      · rcases hO k hk with h1 | h1
        · exact .inl (.inr (.inr (.inr ⟨x, hxm, h1⟩)))
        · exact .inr h1
      · exact .inl (.inr (.inr (.inr ⟨z, List.mem_of_getElem? hzj, hk⟩)))
theorem RowX.setU {x x' : LX} {i : Nat} (h : RowX w g V L its xs) (hi : xs[i]? = some x) : ∀ k, RowU g V L (xs.set i x') k → x'.O k ∨ (RowU g V L xs k ∧ ¬ x.O k) := fun k hk => by
  have hlt := (List.getElem?_eq_some_iff.1 hi).1
  have hxe := (List.getElem?_eq_some_iff.1 hi).2
  have hxm : x ∈ xs := List.mem_of_getElem? hi
  rcases hk with hk | hk | hk | ⟨z, hz, hk⟩
  · exact .inr ⟨.inl hk, fun e => (h.off x hxm k e).1 hk⟩
  · exact .inr ⟨.inr (.inl hk), fun e => (h.off x hxm k e).2.1 hk⟩
  · exact .inr ⟨.inr (.inr (.inl hk)), fun e => (h.off x hxm k e).2.2 hk⟩
  · obtain ⟨j, hj, e⟩ := List.mem_iff_getElem.1 hz
    by_cases hji : j = i
    · subst hji
      rw [List.getElem_set_self] at e
      subst e
      exact .inl hk
    · rw [List.getElem_set_ne (fun e => hji e.symm)] at e
      have hjl : j < xs.length := by simpa using hj
      subst e
      refine .inr ⟨.inr (.inr (.inr ⟨_, List.getElem_mem hjl, hk⟩)), fun hxk => ?_⟩
      rcases Nat.lt_or_gt_of_ne hji with h1 | h1
      · have := List.pairwise_iff_getElem.1 h.dis j i hjl hlt h1
        rw [hxe] at this
        exact this k hk hxk
      · have := List.pairwise_iff_getElem.1 h.dis i j hlt hjl h1
        rw [hxe] at this
        exact this k hxk hk
end
end Go.Proofs.YtbpaepkcchpmbaaGreat

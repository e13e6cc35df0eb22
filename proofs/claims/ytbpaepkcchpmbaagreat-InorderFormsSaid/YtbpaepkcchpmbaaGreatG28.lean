import Derived.Test.YtbpaepkcchpmbaaGreatG22
import Derived.Test.YtbpaepkcchpmbaaGreatG24
import Derived.Test.YtbpaepkcchpmbaaGreatG12
namespace Go.Proofs.YtbpaepkcchpmbaaGreat
open Go.RowKit
def PushedO (g i : Nat) (cs : Array Value) (v : Value) (ps : List Pt) (w w' : World) : Prop :=
  ∃ v', Has w' g QT (cs.setIfInBounds i v') ∧ OwnP w' v' ps ∧ ButS (g :: v.ownBlock.toList) w w' ∧ (v'.ownBlock = v.ownBlock ∨ ∃ k, v'.ownBlock = some k ∧ w.heap.size ≤ k)
theorem grown_pushed {g i : Nat} {cs : Array Value} {v v' : Value} {ps : List Pt} {q : Pt} {w w1 w' : World} (hst : Has w g QT cs) (ho : OwnP w v ps) (hb : Below w.heap.size w w1) (ho' : OwnP w' v' (ps ++ [q])) (hg : w1.grownBy w' v.ownBlock) (hv : v'.ownBlock = v.ownBlock ∨ v'.ownBlock = some w1.heap.size) :
    Has w' g QT cs ∧ PushedO g i cs v (ps ++ [q]) w (w'.setCell ⟨g, i, none⟩ v') := by
  have hne := ho.apart hst (by decide)
  have h1 := hst.below hb hst.lt
  have h2 : Has w' g QT cs := (hg.block g h1.lt (fun e => hne e.symm)).trans h1
  have hne' := ho'.apart h2 (by decide)
  have hs := hb.size
  have hs2 := hg.size
  refine ⟨h2, v', h2.put i v', ho'.same fun k hk => heap_setCell_other _ _ _ _ (fun e => hne' (by simp only at e; rw [hk, e])), ⟨hg.os.trans hb.os, hg.tape.trans hb.tape, hg.output.trans hb.output, by simp [World.setCell]; omega, fun k hk hn => ?_⟩, ?_⟩
  · have hkg : k ≠ g := fun e => hn (by simp [e])
    have hkv : some k ≠ v.ownBlock := fun e => hn (by rw [← e]; simp)
    exact (heap_setCell_other w' ⟨g, i, none⟩ k v' hkg).trans ((hg.block k (by omega) hkv).trans (hb.block k hk))
  · rcases hv with hv | hv
    · exact .inl hv
    · exact .inr ⟨_, hv, hs⟩
set_option maxRecDepth 100000 in
set_option maxHeartbeats 2000000 in
theorem spush_any (g i : Nat) (cs : Array Value) (v : Value) (ps : List Pt) (q : Pt) (w : World) (hst : Has w g QT cs) (hc : cs[i]? = some v) (ho : OwnP w v ps) (hn : ps.length ≤ 65536) :
    Calls Tryz.prog 220 #[.pointer (some ⟨g, i, none⟩), .agg (partC q)] w fun e w' => e = .returned (.tuple #[]) ∧ PushedO g i cs v (ps ++ [q]) w w' := by
  obtain ⟨A, c, rfl, _⟩ := ho.form
  generalize hnl : ps.length = n at ho hc hn ⊢
  have HST := Lib.hid hst
  have HO := Lib.hid ho
  have HN := Lib.hid hnl
  have HCI : Hid (∀ w', Has w' g QT cs → w'.cell? ⟨g, i, none⟩ = some (.slice A n c)) := fun w' h => (h.cell i).trans hc
  clear hst ho hc hnl
  go_enter Tryz.func220, Tryz.ntmps220
  go_upto_region 1 with fail
  have HB0 := Lib.hid (show Below w.heap.size w (w.alloc (.cells (partC q) 271)) from (Below.refl _ _).alloc (Nat.le_refl _) _)
  refine spu1_any (g := g) (i := i) (x := w.heap.size) (n := n) (c := c) (A := A) (q := q) ⟨rfl, rfl, rfl, HCI.out _ (HST.out.alloc _), Has.made _ _ _⟩ (by kernel_rfl) ?_ ?_
  · intro e9 w9 hB9 hH9
    have HB9 := Lib.hid (HB0.out.trans (hB9.mono (by simp)))
    have HH9 := Lib.hid hH9
    clear hB9 hH9
    have HO9 := Lib.hid (HO.out.below HB9.out)
    simp only [putAll, Act.put, List.setIfInBounds_toArray, List.set_cons_succ, List.set_cons_zero, List.drop_succ_cons, List.drop_zero]
    refine app_part rfl _ _ rfl (q := q) rfl HO9.out rfl HH9.out (by rw [HN.out]; exact hn) ?_
    intro v2 w2 h1 h2 h3
    obtain ⟨A2, c2, rfl, _⟩ := h1.form
    generalize (ps ++ [q]).length = n2 at h1 h3 ⊢
    obtain ⟨k1, k2⟩ := grown_pushed (i := i) HST.out HO.out HB9.out h1 h2 h3
    have hci := HCI.out _ k1
    have hmi := k1.mark i
    have HK := Lib.hid k2
    clear h1 h2 h3 k1 k2
    go_wp2_with fail
    exact Great.bodyPost_end0 rfl rfl ⟨rfl, HK.out⟩
  · intro e9 w9 hB9 hH9
    have HB9 := Lib.hid (HB0.out.trans (hB9.mono (by simp)))
    have HH9 := Lib.hid hH9
    clear hB9 hH9
    have HO9 := Lib.hid (HO.out.below HB9.out)
    simp only [putAll, Act.put, List.setIfInBounds_toArray, List.set_cons_succ, List.set_cons_zero, pickL, List.filterMap_cons, List.getElem?_cons_succ, List.getElem?_cons_zero, List.filterMap_nil]
    refine app_part rfl _ _ rfl (q := q) rfl HO9.out rfl HH9.out (by rw [HN.out]; exact hn) ?_
    intro v2 w2 h1 h2 h3
    obtain ⟨A2, c2, rfl, _⟩ := h1.form
    generalize (ps ++ [q]).length = n2 at h1 h3 ⊢
    obtain ⟨k1, k2⟩ := grown_pushed (i := i) HST.out HO.out HB9.out h1 h2 h3
    have hci := HCI.out _ k1
    have hmi := k1.mark i
    have HK := Lib.hid k2
    clear h1 h2 h3 k1 k2
    go_wp2_with fail
    exact Great.bodyPost_end0 rfl rfl ⟨rfl, HK.out⟩
end Go.Proofs.YtbpaepkcchpmbaaGreat
namespace Go.Proofs.YtbpaepkcchpmbaaGreat
open Go.RowKit
structure ButO (O : Nat → Prop) (w w' : World) : Prop where
  os : w'.os = w.os
  tape : w'.tape = w.tape
  output : w'.output = w.output
  size : w.heap.size ≤ w'.heap.size
  other : ∀ k, k < w.heap.size → ¬ O k → w'.heap[k]? = w.heap[k]?
section
variable {O O' : Nat → Prop} {w w' w'' w1 : World}
theorem below_butO (h : Below w.heap.size w w') (O : Nat → Prop) : ButO O w w' := ⟨h.os, h.tape, h.output, h.size, fun k hk _ => h.block k hk⟩
theorem butS_butO {gs : List Nat} (h : ButS gs w w') (hg : ∀ k ∈ gs, O k) : ButO O w w' := ⟨h.os, h.tape, h.output, h.size, fun k hk hn => h.other k hk (fun e => hn (hg k e))⟩
theorem ButO.andThen (h : ButO O w w') (k : ButO O' w' w'') (ho : ∀ i, O' i → i < w.heap.size → O i) : ButO O w w'' :=
  ⟨k.os.trans h.os, k.tape.trans h.tape, k.output.trans h.output, Nat.le_trans h.size k.size, fun i hi hn => (k.other i (Nat.lt_of_lt_of_le hi h.size) (fun e => hn (ho i e hi))).trans (h.other i hi hn)⟩
theorem ButO.below (h : ButO O w w') {B : Nat} {w0 : World} (h0 : Below B w0 w) (hB : B ≤ w.heap.size) (hO : ∀ k, O k → B ≤ k) : Below B w0 w' :=
  h0.trans ⟨h.os, h.tape, h.output, h.size, fun k hk => h.other k (by omega) (fun e => by have := hO k e; omega)⟩
theorem Has.butO {g : Nat} {t : TypeId} {cs : Array Value} (h : Has w g t cs) (hb : ButO O w w') (hg : ¬ O g) : Has w' g t cs := (hb.other g h.lt hg).trans h
end
end Go.Proofs.YtbpaepkcchpmbaaGreat
namespace Go.Proofs.YtbpaepkcchpmbaaGreat
open Go.RowKit
def ordQ (fs bk : List Pt) : List Ac := fs.map (·.a) ++ (bk.map (·.a)).reverse
def UpQ (bs : List Int) : List Pt → Prop
  | [] => True
  | p :: r => p.s = joinAc bs (p.a :: r.map (·.a)) ∧ UpQ bs r
def DnQ (bs : List Int) : List Pt → Prop
  | [] => True
  | p :: r => p.s = joinAc bs ((r.map (·.a)).reverse ++ [p.a]) ∧ DnQ bs r
theorem topV_up {bs : List Int} : ∀ {fs : List Pt}, UpQ bs fs → topV bs fs = joinAc bs (fs.map (·.a))
  | [], _ => rfl
  | _ :: _, h => h.1
theorem topV_dn {bs : List Int} : ∀ {bk : List Pt}, DnQ bs bk → topV bs bk = joinAc bs (bk.map (·.a)).reverse
  | [], _ => rfl
  | p :: r, h => by rw [List.map_cons, List.reverse_cons]; exact h.1
section
variable {O O' : Nat → Prop} {w w' w'' w1 : World}
theorem OwnI.butS {base : Nat} {v : Value} {xs : List Int} {gs : List Nat} (h : OwnI w base v xs) (hb : ButS gs w w') (hn : ∀ k, v.ownBlock = some k → k ∉ gs) : OwnI w' base v xs := h.same fun k hk => by
  obtain ⟨cur, h2⟩ := h.has hk
  exact hb.other k h2.lt (hn k hk)
theorem OwnP.butS {v : Value} {ps : List Pt} {gs : List Nat} (h : OwnP w v ps) (hb : ButS gs w w') (hn : ∀ k, v.ownBlock = some k → k ∉ gs) : OwnP w' v ps := h.same fun k hk => by
  obtain ⟨cur, h2⟩ := h.has hk
  exact hb.other k h2.lt (hn k hk)
end
structure QuM (O : Nat → Prop) (w : World) (g : Nat) (bs : List Int) (bv F B : Value) (fs bk : List Pt) : Prop where
  st : Has w g QT #[bv, F, B]
  bd : OwnI w 0 bv bs
  fr : OwnP w F fs.reverse
  ba : OwnP w B bk.reverse
  one : ∀ p ∈ fs ++ bk, OwnI w 0 (.slice (some ⟨p.h, 0, none⟩) p.a.h.length p.c) p.a.h
  all : ∀ p ∈ fs ++ bk, Has w p.H 3 (ints p.s.h)
  inG : O g
  inD : ∀ k, bv.ownBlock = some k → O k
  inF : ∀ k, F.ownBlock = some k → O k
  inB : ∀ k, B.ownBlock = some k → O k
  inO : ∀ p ∈ fs ++ bk, O p.h ∧ O p.H
  far : ∀ k, F.ownBlock = some k → B.ownBlock ≠ some k
  ones : ((fs ++ bk).map (·.h)).Nodup
  offH : ∀ p ∈ fs ++ bk, ∀ q ∈ fs ++ bk, p.h ≠ q.H
  offD : ∀ p ∈ fs ++ bk, bv.ownBlock ≠ some p.h
  up : UpQ bs fs
  dn : DnQ bs bk
theorem own_some (h n c : Nat) : (Value.slice (some ⟨h, 0, none⟩) n c).ownBlock = some h := rfl
section
variable {O O' : Nat → Prop} {w w' w1 : World} {g : Nat} {bs : List Int} {bv F B B' F' : Value} {fs bk : List Pt} {p q : Pt}
theorem QuM.oneHas (h : QuM O w g bs bv F B fs bk) (hp : p ∈ fs ++ bk) : ∃ cur, Has w p.h 3 cur := (h.one p hp).has (own_some _ _ _)
theorem QuM.same (h : QuM O w g bs bv F B fs bk) (hk : ∀ k, O k → w'.heap[k]? = w.heap[k]?) : QuM O w' g bs bv F B fs bk :=
  ⟨(hk g h.inG).trans h.st, h.bd.same fun k e => hk k (h.inD k e), h.fr.same fun k e => hk k (h.inF k e), h.ba.same fun k e => hk k (h.inB k e),
   fun p hp => (h.one p hp).same fun k e => hk k (by rw [own_some] at e; injection e with e; exact e ▸ (h.inO p hp).1), fun p hp => (hk _ (h.inO p hp).2).trans (h.all p hp),
   h.inG, h.inD, h.inF, h.inB, h.inO, h.far, h.ones, h.offH, h.offD, h.up, h.dn⟩
theorem QuM.mono (h : QuM O w g bs bv F B fs bk) (ho : ∀ k, k < w.heap.size → O k → O' k) : QuM O' w g bs bv F B fs bk :=
  ⟨h.st, h.bd, h.fr, h.ba, h.one, h.all, ho _ h.st.lt h.inG, (fun k e => by obtain ⟨c, hh⟩ := h.bd.has e; exact ho k hh.lt (h.inD k e)), (fun k e => by obtain ⟨c, hh⟩ := h.fr.has e; exact ho k hh.lt (h.inF k e)), (fun k e => by obtain ⟨c, hh⟩ := h.ba.has e; exact ho k hh.lt (h.inB k e)),
   fun p hp => ⟨by obtain ⟨c, hh⟩ := h.oneHas hp; exact ho _ hh.lt (h.inO p hp).1, ho _ (h.all p hp).lt (h.inO p hp).2⟩, h.far, h.ones, h.offH, h.offD, h.up, h.dn⟩
theorem QuM.below (h : QuM O w g bs bv F B fs bk) (hb : Below w.heap.size w w') : QuM O w' g bs bv F B fs bk := by
  have h2 : QuM (fun k => O k ∧ k < w.heap.size) w g bs bv F B fs bk := h.mono fun k hk ho => ⟨ho, hk⟩
  have h3 := h2.same (w' := w') fun k hk => hb.block k hk.2
  exact h3.mono fun k _ hk => hk.1
theorem int_out {v : Value} {ps : List Pt} {cs cur : Array Value} {k : Nat} (hst : Has w g QT cs) (hv : OwnP w v ps) (hk : Has w k 3 cur) : k ∉ g :: v.ownBlock.toList := fun e => by
  rcases List.mem_cons.1 e with rfl | e
  · exact has_types hk hst (by decide)
  · have e2 : v.ownBlock = some k := by simpa using e
    exact hv.apart hk (by decide) e2
structure NewP (w : World) (bs : List Int) (bv : Value) (fs bk : List Pt) (q : Pt) (w1 : World) : Prop where
  keep : Below w.heap.size w w1
  one : OwnI w1 0 (.slice (some ⟨q.h, 0, none⟩) q.a.h.length q.c) q.a.h
  all : Has w1 q.H 3 (ints q.s.h)
  off : ∀ p ∈ fs ++ bk, q.h ≠ p.h ∧ q.h ≠ p.H
  offD : bv.ownBlock ≠ some q.h
  lt : q.h < q.H
  new : w.heap.size ≤ q.H
def NewPO (O : Nat → Prop) (q : Pt) (w w' : World) : Nat → Prop := fun k => O k ∨ k = q.h ∨ (w.heap.size ≤ k ∧ k < w'.heap.size)
theorem put_ones (h : QuM O w g bs bv F B fs bk) (hq : NewP w bs bv fs bk q w1) {l : List Pt} (hl : l.Perm (q :: (fs ++ bk))) : (l.map (·.h)).Nodup ∧ (∀ p ∈ l, ∀ r ∈ l, p.h ≠ r.H) ∧ ∀ p ∈ l, bv.ownBlock ≠ some p.h := by
  have hm : ∀ p, p ∈ l → p = q ∨ p ∈ fs ++ bk := fun p hp => by simpa using hl.mem_iff.1 hp
  have hlt : ∀ p ∈ fs ++ bk, p.h < w.heap.size := fun p hp => by obtain ⟨c, hh⟩ := h.oneHas hp; exact hh.lt
  refine ⟨(hl.map _).nodup_iff.2 ?_, fun p hp r hr => ?_, fun p hp => ?_⟩
  · rw [List.map_cons, List.nodup_cons]
    refine ⟨fun e => ?_, h.ones⟩
    obtain ⟨p, hp, e2⟩ := List.mem_map.1 e
    exact (hq.off p hp).1 e2.symm
  · rcases hm p hp with rfl | hp <;> rcases hm r hr with rfl | hr
    · have := hq.lt; omega
    · exact (hq.off r hr).2
    · have := hlt p hp; have := hq.new; omega
    · exact h.offH p hp r hr
  · rcases hm p hp with rfl | hp
    · exact hq.offD
    · exact h.offD p hp
theorem QuM.putB (h : QuM O w g bs bv F B fs bk) (hq : NewP w bs bv fs bk q w1) (hs : q.s = joinAc bs ((bk.map (·.a)).reverse ++ [q.a])) (hp : PushedO g 2 #[bv, F, B] B (bk.reverse ++ [q]) w1 w') :
    (∃ B', QuM (NewPO O q w w') w' g bs bv F B' fs (q :: bk)) ∧ ButO O w w' := by
  obtain ⟨B', k1, k2, k3, k4⟩ := hp
  have hb := hq.keep
  have hst1 := h.st.below hb h.st.lt
  have hba1 := h.ba.below hb
  have hI : ∀ k cur, Has w1 k 3 cur → k ∉ g :: B.ownBlock.toList := fun k cur hk => int_out hst1 hba1 hk
  have hperm : (fs ++ q :: bk).Perm (q :: (fs ++ bk)) := List.perm_middle
  have hm : ∀ p, p ∈ fs ++ q :: bk → p = q ∨ p ∈ fs ++ bk := fun p hp => by simpa using hperm.mem_iff.1 hp
  obtain ⟨o1, o2, o3⟩ := put_ones h hq hperm
  have hs1 := hb.size
  have hs2 := k3.size
  have keepI : ∀ {v : Value} {xs : List Int}, OwnI w1 0 v xs → OwnI w' 0 v xs := fun {v xs} ho => ho.butS k3 fun k e => by
    obtain ⟨c, hh⟩ := ho.has e
    exact hI k c hh
  refine ⟨⟨B', ⟨k1, keepI (h.bd.below hb), (h.fr.below hb).butS k3 fun k e e2 => ?_, by rw [List.reverse_cons]; exact k2, fun p hp => ?_, fun p hp => ?_, .inl h.inG, fun k e => .inl (h.inD k e), fun k e => .inl (h.inF k e), fun k e => ?_, fun p hp => ?_, fun k e e2 => ?_, o1, o2, o3, h.up, ⟨hs, h.dn⟩⟩⟩, ?_⟩
  · rcases List.mem_cons.1 e2 with rfl | e2
    · exact (h.fr.below hb).apart hst1 (by decide) e
    · exact h.far k e (by simpa using e2)
  · rcases hm p hp with rfl | hp
    · exact keepI hq.one
    · exact keepI ((h.one p hp).below hb)
  · rcases hm p hp with rfl | hp
    · exact hq.all.butS k3 (hI _ _ hq.all)
    · have := (h.all p hp).below hb (h.all p hp).lt
      exact this.butS k3 (hI _ _ this)
  · rcases k4 with k4 | ⟨j, k4, k5⟩
    · exact .inl (h.inB k (k4 ▸ e))
    · rw [k4] at e
      injection e with e
      obtain ⟨c, hh⟩ := k2.has k4
      exact .inr (.inr ⟨by omega, by rw [← e]; exact hh.lt⟩)
  · rcases hm p hp with rfl | hp
    · exact ⟨.inr (.inl rfl), .inr (.inr ⟨hq.new, by have := hq.all.lt; omega⟩)⟩
    · exact ⟨.inl (h.inO p hp).1, .inl (h.inO p hp).2⟩
  · rcases k4 with k4 | ⟨j, k4, k5⟩
    · exact h.far k e (k4 ▸ e2)
    · rw [k4] at e2
      injection e2 with e2
      obtain ⟨c, hh⟩ := h.fr.has e
      have := hh.lt
      omega
  · exact (below_butO hb O).andThen (butS_butO (O := fun k => k = g ∨ B.ownBlock = some k) k3 (fun k hk => by
      rcases List.mem_cons.1 hk with rfl | hk
      · exact .inl rfl
      · exact .inr (by simpa using hk))) (fun i hi _ => by
      rcases hi with rfl | hi
      · exact h.inG
      · exact h.inB i hi)
theorem QuM.putF (h : QuM O w g bs bv F B fs bk) (hq : NewP w bs bv fs bk q w1) (hs : q.s = joinAc bs (q.a :: fs.map (·.a))) (hp : PushedO g 1 #[bv, F, B] F (fs.reverse ++ [q]) w1 w') :
    (∃ F', QuM (NewPO O q w w') w' g bs bv F' B (q :: fs) bk) ∧ ButO O w w' := by
  obtain ⟨F', k1, k2, k3, k4⟩ := hp
  have hb := hq.keep
  have hst1 := h.st.below hb h.st.lt
  have hfr1 := h.fr.below hb
  have hI : ∀ k cur, Has w1 k 3 cur → k ∉ g :: F.ownBlock.toList := fun k cur hk => int_out hst1 hfr1 hk
  have hperm : (q :: fs ++ bk).Perm (q :: (fs ++ bk)) := List.Perm.refl _
  have hm : ∀ p, p ∈ q :: fs ++ bk → p = q ∨ p ∈ fs ++ bk := fun p hp => by simpa using hperm.mem_iff.1 hp
  obtain ⟨o1, o2, o3⟩ := put_ones h hq hperm
  have hs1 := hb.size
  have hs2 := k3.size
  have keepI : ∀ {v : Value} {xs : List Int}, OwnI w1 0 v xs → OwnI w' 0 v xs := fun {v xs} ho => ho.butS k3 fun k e => by
    obtain ⟨c, hh⟩ := ho.has e
    exact hI k c hh
  refine ⟨⟨F', ⟨k1, keepI (h.bd.below hb), by rw [List.reverse_cons]; exact k2, (h.ba.below hb).butS k3 fun k e e2 => ?_, fun p hp => ?_, fun p hp => ?_, .inl h.inG, fun k e => .inl (h.inD k e), fun k e => ?_, fun k e => .inl (h.inB k e), fun p hp => ?_, fun k e e2 => ?_, o1, o2, o3, ⟨hs, h.up⟩, h.dn⟩⟩, ?_⟩
  · rcases List.mem_cons.1 e2 with rfl | e2
    · exact (h.ba.below hb).apart hst1 (by decide) e
    · exact h.far k (by simpa using e2) e
  · rcases hm p hp with rfl | hp
    · exact keepI hq.one
    · exact keepI ((h.one p hp).below hb)
  · rcases hm p hp with rfl | hp
    · exact hq.all.butS k3 (hI _ _ hq.all)
    · have := (h.all p hp).below hb (h.all p hp).lt
      exact this.butS k3 (hI _ _ this)
  · rcases k4 with k4 | ⟨j, k4, k5⟩
    · exact .inl (h.inF k (k4 ▸ e))
    · rw [k4] at e
      injection e with e
      obtain ⟨c, hh⟩ := k2.has k4
      exact .inr (.inr ⟨by omega, by rw [← e]; exact hh.lt⟩)
  · rcases hm p hp with rfl | hp
    · exact ⟨.inr (.inl rfl), .inr (.inr ⟨hq.new, by have := hq.all.lt; omega⟩)⟩
    · exact ⟨.inl (h.inO p hp).1, .inl (h.inO p hp).2⟩
  · rcases k4 with k4 | ⟨j, k4, k5⟩
    · exact h.far k (k4 ▸ e) e2
    · rw [k4] at e
      injection e with e
      obtain ⟨c, hh⟩ := h.ba.has e2
      have := hh.lt
      omega
  · exact (below_butO hb O).andThen (butS_butO (O := fun k => k = g ∨ F.ownBlock = some k) k3 (fun k hk => by
      rcases List.mem_cons.1 hk with rfl | hk
      · exact .inl rfl
      · exact .inr (by simpa using hk))) (fun i hi _ => by
      rcases hi with rfl | hi
      · exact h.inG
      · exact h.inF i hi)
structure TookP (w : World) (bv : Value) (fs bk : List Pt) (p : Pt) : Prop where
  one : OwnI w 0 (.slice (some ⟨p.h, 0, none⟩) p.a.h.length p.c) p.a.h
  off : ∀ q ∈ fs ++ bk, p.h ≠ q.h ∧ p.h ≠ q.H
  offD : bv.ownBlock ≠ some p.h
def LessO (O : Nat → Prop) (p : Pt) : Nat → Prop := fun k => O k ∧ k ≠ p.h
theorem took {l : List Pt} (h : QuM O w g bs bv F B fs bk) (hl : (fs ++ bk).Perm (p :: l)) : (l.map (·.h)).Nodup ∧ (∀ q ∈ l, p.h ≠ q.h ∧ p.h ≠ q.H) ∧ (∀ q ∈ l, q ∈ fs ++ bk) ∧ p ∈ fs ++ bk := by
  have hm : ∀ q, q ∈ fs ++ bk ↔ q = p ∨ q ∈ l := fun q => by rw [hl.mem_iff, List.mem_cons]
  have hn := (hl.map (·.h)).nodup_iff.1 h.ones
  rw [List.map_cons, List.nodup_cons] at hn
  refine ⟨hn.2, fun q hq => ⟨fun e => hn.1 (e ▸ List.mem_map_of_mem hq), h.offH p ((hm p).2 (.inl rfl)) q ((hm q).2 (.inr hq))⟩, fun q hq => (hm q).2 (.inr hq), (hm p).2 (.inl rfl)⟩
theorem QuM.takeB {b : Nat} (h : QuM O w g bs bv F B fs (p :: bk)) (hB : B.ownBlock = some b) (hst : Has w' g QT #[bv, F, B']) (ho : OwnP w' B' bk.reverse) (hB' : B'.ownBlock = some b) (hk : ButS [g, b] w w') :
    QuM (LessO O p) w' g bs bv F B' fs bk ∧ TookP w' bv fs bk p ∧ ButO O w w' := by
  have hperm : (fs ++ p :: bk).Perm (p :: (fs ++ bk)) := List.perm_middle
  obtain ⟨o1, o2, o3, o4⟩ := took h hperm
  have hI : ∀ k cur, Has w k 3 cur → k ∉ [g, b] := fun k cur hh => by
    have := int_out h.st h.ba hh
    rw [hB] at this
    simpa using this
  have keepI : ∀ {v : Value} {xs : List Int}, OwnI w 0 v xs → OwnI w' 0 v xs := fun {v xs} ho => ho.butS hk fun k e => by
    obtain ⟨c, hh⟩ := ho.has e
    exact hI k c hh
  obtain ⟨cp, hcp⟩ := h.oneHas o4
  refine ⟨⟨hst, keepI h.bd, h.fr.butS hk fun k e e2 => ?_, ho, fun q hq => keepI (h.one q (o3 q hq)), fun q hq => (h.all q (o3 q hq)).butS hk (hI _ _ (h.all q (o3 q hq))), ⟨h.inG, fun e => ?_⟩, fun k e => ⟨h.inD k e, fun e2 => ?_⟩, fun k e => ⟨h.inF k e, fun e2 => ?_⟩, fun k e => ⟨h.inB k (by rw [hB, ← hB', e]), fun e2 => ?_⟩, fun q hq => ⟨⟨(h.inO q (o3 q hq)).1, fun e => (o2 q hq).1 e.symm⟩, ⟨(h.inO q (o3 q hq)).2, fun e => (o2 q hq).2 e.symm⟩⟩, fun k e e2 => ?_, o1, fun q hq r hr => h.offH q (o3 q hq) r (o3 r hr), fun q hq => h.offD q (o3 q hq), h.up, h.dn.2⟩, ⟨keepI (h.one p o4), o2, h.offD p o4⟩, butS_butO hk fun k hk => ?_⟩
  · simp only [List.mem_cons, List.not_mem_nil, or_false] at e2
    rcases e2 with rfl | rfl
    · exact h.fr.apart h.st (by decide) e
    · exact h.far _ e hB
  · exact has_types (e ▸ hcp) h.st (by decide)
  · exact h.offD p o4 (e2 ▸ e)
  · exact h.fr.apart hcp (by decide) (e2 ▸ e)
  · exact h.ba.apart hcp (by decide) (e2 ▸ (by rw [hB, ← hB', e]))
  · exact h.far k e (by rw [hB, ← hB', e2])
  · simp only [List.mem_cons, List.not_mem_nil, or_false] at hk
    rcases hk with rfl | rfl
    · exact h.inG
    · exact h.inB _ hB
theorem QuM.takeF {b : Nat} (h : QuM O w g bs bv F B (p :: fs) bk) (hF : F.ownBlock = some b) (hst : Has w' g QT #[bv, F', B]) (ho : OwnP w' F' fs.reverse) (hF' : F'.ownBlock = some b) (hk : ButS [g, b] w w') :
    QuM (LessO O p) w' g bs bv F' B fs bk ∧ TookP w' bv fs bk p ∧ ButO O w w' := by
  have hperm : (p :: fs ++ bk).Perm (p :: (fs ++ bk)) := List.Perm.refl _
  obtain ⟨o1, o2, o3, o4⟩ := took h hperm
  have hI : ∀ k cur, Has w k 3 cur → k ∉ [g, b] := fun k cur hh => by
    have := int_out h.st h.fr hh
    rw [hF] at this
    simpa using this
  have keepI : ∀ {v : Value} {xs : List Int}, OwnI w 0 v xs → OwnI w' 0 v xs := fun {v xs} ho => ho.butS hk fun k e => by
    obtain ⟨c, hh⟩ := ho.has e
    exact hI k c hh
  obtain ⟨cp, hcp⟩ := h.oneHas o4
  refine ⟨⟨hst, keepI h.bd, ho, h.ba.butS hk fun k e e2 => ?_, fun q hq => keepI (h.one q (o3 q hq)), fun q hq => (h.all q (o3 q hq)).butS hk (hI _ _ (h.all q (o3 q hq))), ⟨h.inG, fun e => ?_⟩, fun k e => ⟨h.inD k e, fun e2 => ?_⟩, fun k e => ⟨h.inF k (by rw [hF, ← hF', e]), fun e2 => ?_⟩, fun k e => ⟨h.inB k e, fun e2 => ?_⟩, fun q hq => ⟨⟨(h.inO q (o3 q hq)).1, fun e => (o2 q hq).1 e.symm⟩, ⟨(h.inO q (o3 q hq)).2, fun e => (o2 q hq).2 e.symm⟩⟩, fun k e e2 => ?_, o1, fun q hq r hr => h.offH q (o3 q hq) r (o3 r hr), fun q hq => h.offD q (o3 q hq), h.up.2, h.dn⟩, ⟨keepI (h.one p o4), o2, h.offD p o4⟩, butS_butO hk fun k hk => ?_⟩
  · simp only [List.mem_cons, List.not_mem_nil, or_false] at e2
    rcases e2 with rfl | rfl
    · exact h.ba.apart h.st (by decide) e
    · exact h.far _ hF e
  · exact has_types (e ▸ hcp) h.st (by decide)
  · exact h.offD p o4 (e2 ▸ e)
  · exact h.fr.apart hcp (by decide) (e2 ▸ (by rw [hF, ← hF', e]))
  · exact h.ba.apart hcp (by decide) (e2 ▸ e)
  · exact h.far k (by rw [hF, ← hF', e]) e2
  · simp only [List.mem_cons, List.not_mem_nil, or_false] at hk
    rcases hk with rfl | rfl
    · exact h.inG
    · exact h.inF _ hF
end
end Go.Proofs.YtbpaepkcchpmbaaGreat

/-
  The two drawn regions of Queues (written by gen/stqs.py).
  Both queues side by side; what is spoiled beside them.
-/
import Derived.Test.YtjmaeiilkbfnaaaQ14
import Derived.Test.YtjmaeiilkbfnaaaQ13
import Derived.Test.YtjmaeiilkbfnaaaAccsP
import Derived.Test.YtjmaeiilkbfnaaaQ1
namespace Go.Proofs.Ytjmaeiilkbfnaaa
open Go.RowKit

/-- What stands ahead of the call that writes, and behind it. -/
def StI (w0 : World) (Post : World → Prop) : Bool → Bool → World → Prop := fun p _ w => if p = true then Post w else Below w0.heap.size w0 w
theorem StI.below {w0 w w' : World} {Post : World → Prop} {p q : Bool} (hp : ∀ w w2, Post w → Below w.heap.size w w2 → Post w2) (h : StI w0 Post p q w) (hb : Below w.heap.size w w') : StI w0 Post p q w' := by
  cases p with
  | true => exact hp _ _ h hb
  | false =>
    have h2 : Below w0.heap.size w0 w := h
    exact h2.trans (hb.mono h2.size)
theorem StI.wrote {w0 w w' : World} {Post : World → Prop} {gs : List Nat} {q : Bool} {e : Ending} {c : Int} (hI : MI gs (StI w0 Post) w0 false q w) (h : e = .returned (.int .i64 c) ∧ ButS gs w w' ∧ Post w') :
    ∃ u, e = .returned u ∧ ButS gs w w' ∧ MI gs (StI w0 Post) w0 true false w' ∧ u = .int .i64 c := ⟨_, h.1, h.2.1, ⟨hI.gr.trans h.2.1, h.2.2⟩, rfl⟩

def sqs19D : List (Option Tmp) := [some 103, some 104, some 105, some 106, some 107, some 108, some 109, some 110, some 111, some 112, some 113, some 114, some 115, some 116, some 117, some 118, some 119, some 120]
def sqs19F (g _y b f n c t k d q x _X : Nat) (B D : Option Addr) (u : Ac) (code : Int) (_gs : List Nat) (_Post : World → Prop) : List Fact := [isV (.int .i64 code), isV (.int .i64 code), isV (.pointer (some ⟨g, 0, none⟩)), isV (.slice (some ⟨b, f, none⟩) n c), isV (.int .i64 t), isV (.pointer (some ⟨b, f + t * 13, none⟩)), isV (.agg (accC u B k d)), isV (.int .i64 code), isV (.bool false), isV (.bool false), isV (.agg (accC u D q x)), isV (.slice (some ⟨b, f, none⟩) n c), isV (.int .i64 t), isV (.pointer (some ⟨b, f + t * 13, none⟩)), isV (.agg (accC u B k d)), isV (.bool true), isV (.bool false)]
theorem sqs19F_mono (g y b f n c t k d q x X : Nat) (B D : Option Addr) (u : Ac) (code : Int) (gs : List Nat) (Post : World → Prop) : ∀ φ ∈ sqs19F g y b f n c t k d q x X B D u code gs Post, Mono φ := by
  unfold sqs19F
  repeat (first | exact monos_nil | (refine monos_cons (mono_isV _) ?_))
structure sqs19S (g y b f n c t k d q x X : Nat) (B D : Option Addr) (u : Ac) (code : Int) (gs : List Nat) (Post : World → Prop) (a0 : Act) (w0 : World) : Prop where
  size : a0.tmps.size = 147
  v1 : a0.tmps.getD 1 undef = .slice (some ⟨b, f, none⟩) n c
  v9 : a0.tmps.getD 9 undef = .pointer (some ⟨g, 0, none⟩)
  v11 : a0.tmps.getD 11 undef = .int .i64 t
  v17 : a0.tmps.getD 17 undef = .pointer (some ⟨y, 0, none⟩)
  v18 : a0.tmps.getD 18 undef = .int .i64 code
  tn : t < n
  ar : ∀ w, ButS gs w0 w → AccAt w b (f + t * 13) u B k d
  bx : ∀ w, ButS gs w0 w → Has w y 29 (accC u D q x)
  cp : ∀ w, Below w0.heap.size w0 w → Calls Try.prog 28 #[.pointer (some ⟨g, 0, none⟩), .agg (accC u B k d)] w fun e w2 => e = .returned (.int .i64 code) ∧ ButS gs w w2 ∧ Post w2
  sa : ∀ w, ButS gs w0 w → Calls Try.prog 13 #[.agg (accC u D q x), .agg (accC u B k d)] w fun e w2 => e = .returned (.bool true) ∧ Below w.heap.size w w2
  gx : ∀ j ∈ gs, j < X
  pb : ∀ w w2, Post w → Below w.heap.size w w2 → Post w2
section
variable {g y b f n c t k d q x X : Nat} {B D : Option Addr} {u : Ac} {code : Int} {gs : List Nat} {Post : World → Prop} {a0 : Act} {w0 : World} (S : sqs19S g y b f n c t k d q x X B D u code gs Post a0 w0)
include S
theorem sqs19_gB : ∀ j ∈ (gs : List Nat), j < X := by
  intro j hj
  exact S.gx j hj
omit S in
theorem sqs19F_monoS : ∀ φ ∈ sqs19F g y b f n c t k d q x X B D u code gs Post, MonoS gs φ := by
  unfold sqs19F
  repeat (first | exact allS_nil _ | (refine allS_cons (isV_monoS _ _) ?_))
set_option maxRecDepth 100000 in
set_option maxHeartbeats 8000000 in
theorem sqs19_ok : AllOps (fun j o => ∀ (a : Act) (w : World) (b1 b2 : Bool), (j = 7 → b1 = false ∧ b2 = false) → (j = 1000 → b1 = true ∧ b2 = false) → MI gs (StI w0 Post) w0 b1 b2 w → FrD (sqs19D.take 17) a0 a → needs sqs19D (sqs19F g y b f n c t k d q x X B D u code gs Post) a w o.after.toList → AskM Try.prog sqs19D (factAt (sqs19F g y b f n c t k d q x X B D u code gs Post) j) (ButS gs) (ButS gs) (MI gs (StI w0 Post) w0) 7 1000 j o a w) 0 ((opsOf 19 Try.f4).take 17) := by
  simp only [opsOf, Try.f4, opsAt, Option.bind, Option.or, Option.getD, reduceCtorEq, if_true, if_false, Nat.reduceEqDiff, List.take_succ_cons, List.take_zero]
  refine ⟨?_, ?_⟩
  · intro a w b1 b2 h1 h2 hI hF hd
    refine askM_d (by decide) (by decide) ?_
    exact step_move (guard_none rfl) rfl _ rfl ((hF.other 18 rfl).trans S.v18)
  refine ⟨?_, ?_⟩
  · intro a w b1 b2 h1 h2 hI hF hd
    refine askM_d (by decide) (by decide) ?_
    have h103 : a.tmps.getD 103 undef = .int .i64 code := hd.1 rfl
    refine step_call (guard_none rfl) rfl _ _ (rf_call_run Try.func14 (by kernel_rfl) (by kernel_rfl) _ _ rfl) ?_
    simp only [List.map_toArray, List.map_cons, List.map_nil, Act.eval, h103]
    exact (num_any _ _).mono (by rintro e w1 ⟨rfl, rfl⟩; exact ⟨_, rfl, Below.refl _ _, rfl⟩)
  refine ⟨?_, ?_⟩
  · intro a w b1 b2 h1 h2 hI hF hd
    refine askM_d (by decide) (by decide) ?_
    exact step_move (guard_none rfl) rfl _ rfl ((hF.other 9 rfl).trans S.v9)
  refine ⟨?_, ?_⟩
  · intro a w b1 b2 h1 h2 hI hF hd
    refine askM_d (by decide) (by decide) ?_
    exact step_move (guard_none rfl) rfl _ rfl ((hF.other 1 rfl).trans S.v1)
  refine ⟨?_, ?_⟩
  · intro a w b1 b2 h1 h2 hI hF hd
    refine askM_d (by decide) (by decide) ?_
    exact step_move (guard_none rfl) rfl _ rfl ((hF.other 11 rfl).trans S.v11)
  refine ⟨?_, ?_⟩
  · intro a w b1 b2 h1 h2 hI hF hd
    refine askM_d (by decide) (by decide) ?_
    have h106 : a.tmps.getD 106 undef = .slice (some ⟨b, f, none⟩) n c := hd.1 rfl
    have h107 : a.tmps.getD 107 undef = .int .i64 t := hd.2.1 rfl
    exact rf_index (s := 13) (guard_none rfl) rfl 24 _ _ rfl Try.underlying24 (fun _ => by kernel_rfl) b f n c t _ h106 h107 rfl S.tn rfl
  refine ⟨?_, ?_⟩
  · intro a w b1 b2 h1 h2 hI hF hd
    refine askM_d (by decide) (by decide) ?_
    have h108 : a.tmps.getD 108 undef = .pointer (some ⟨b, f + t * 13, none⟩) := hd.1 rfl
    exact rf_loadS (guard_none rfl) rfl 29 _ rfl b (f + t * 13) h108 (accC u B k d).toList (S.ar w hI.gr).1 Try.underlying29 rfl Try.sizeAcc rfl
  refine ⟨?_, ?_⟩
  · intro a w b1 b2 h1 h2 hI hF hd
    refine askM_1 rfl ?_
    have h105 : a.tmps.getD 105 undef = .pointer (some ⟨g, 0, none⟩) := hd.1 rfl
    have h109 : a.tmps.getD 109 undef = .agg (accC u B k d) := hd.2.1 rfl
    obtain ⟨rfl, rfl⟩ := h1 rfl
    refine stepL_call (guard_none rfl) rfl _ _ (rf_call_run Try.func28 (by kernel_rfl) (by kernel_rfl) _ _ rfl) ?_
    simp only [List.map_toArray, List.map_cons, List.map_nil, Act.eval, h105, h109]
    exact (S.cp w hI.st).mono (fun e w1 h => StI.wrote hI h)
  refine ⟨?_, ?_⟩
  · intro a w b1 b2 h1 h2 hI hF hd
    refine askM_d (by decide) (by decide) ?_
    have h104 : a.tmps.getD 104 undef = .int .i64 code := hd.1 rfl
    have h110 : a.tmps.getD 110 undef = .int .i64 code := hd.2.1 rfl
    exact rf_neq (guard_none rfl) rfl _ _ rfl _ _ h104 h110 false (by simp) rfl
  refine ⟨?_, ?_⟩
  · intro a w b1 b2 h1 h2 hI hF hd
    refine askM_d (by decide) (by decide) ?_
    have h111 : a.tmps.getD 111 undef = .bool false := hd.1 rfl
    exact step_move (guard_none rfl) rfl _ rfl h111
  refine ⟨?_, ?_⟩
  · intro a w b1 b2 h1 h2 hI hF hd
    refine askM_d (by decide) (by decide) ?_
    have h112 : a.tmps.getD 112 undef = .bool false := hd.1 rfl
    exact rf_loadA (rf_open false rfl rfl h112) rfl _ rfl y ((hF.other 17 rfl).trans S.v17) (S.bx w hI.gr) rfl
  refine ⟨?_, ?_⟩
  · intro a w b1 b2 h1 h2 hI hF hd
    refine askM_d (by decide) (by decide) ?_
    have h112 : a.tmps.getD 112 undef = .bool false := hd.1 rfl
    exact step_move (rf_open false rfl rfl h112) rfl _ rfl ((hF.other 1 rfl).trans S.v1)
  refine ⟨?_, ?_⟩
  · intro a w b1 b2 h1 h2 hI hF hd
    refine askM_d (by decide) (by decide) ?_
    have h112 : a.tmps.getD 112 undef = .bool false := hd.1 rfl
    exact step_move (rf_open false rfl rfl h112) rfl _ rfl ((hF.other 11 rfl).trans S.v11)
  refine ⟨?_, ?_⟩
  · intro a w b1 b2 h1 h2 hI hF hd
    refine askM_d (by decide) (by decide) ?_
    have h112 : a.tmps.getD 112 undef = .bool false := hd.2.2.1 rfl
    have h114 : a.tmps.getD 114 undef = .slice (some ⟨b, f, none⟩) n c := hd.1 rfl
    have h115 : a.tmps.getD 115 undef = .int .i64 t := hd.2.1 rfl
    exact rf_index (s := 13) (rf_open false rfl rfl h112) rfl 24 _ _ rfl Try.underlying24 (fun _ => by kernel_rfl) b f n c t _ h114 h115 rfl S.tn rfl
  refine ⟨?_, ?_⟩
  · intro a w b1 b2 h1 h2 hI hF hd
    refine askM_d (by decide) (by decide) ?_
    have h112 : a.tmps.getD 112 undef = .bool false := hd.2.1 rfl
    have h116 : a.tmps.getD 116 undef = .pointer (some ⟨b, f + t * 13, none⟩) := hd.1 rfl
    exact rf_loadS (rf_open false rfl rfl h112) rfl 29 _ rfl b (f + t * 13) h116 (accC u B k d).toList (S.ar w hI.gr).1 Try.underlying29 rfl Try.sizeAcc rfl
  refine ⟨?_, ?_⟩
  · intro a w b1 b2 h1 h2 hI hF hd
    refine askM_d (by decide) (by decide) ?_
    have h112 : a.tmps.getD 112 undef = .bool false := hd.2.2.1 rfl
    have h113 : a.tmps.getD 113 undef = .agg (accC u D q x) := hd.1 rfl
    have h117 : a.tmps.getD 117 undef = .agg (accC u B k d) := hd.2.1 rfl
    refine step_call (rf_open false rfl rfl h112) rfl _ _ (rf_call_run Try.func13 (by kernel_rfl) (by kernel_rfl) _ _ rfl) ?_
    simp only [List.map_toArray, List.map_cons, List.map_nil, Act.eval, h113, h117]
    exact (S.sa w hI.gr).mono (by rintro e w1 ⟨rfl, hb⟩; exact ⟨_, rfl, hb, rfl⟩)
  refine ⟨?_, ?_⟩
  · intro a w b1 b2 h1 h2 hI hF hd
    refine askM_d (by decide) (by decide) ?_
    have h112 : a.tmps.getD 112 undef = .bool false := hd.2.1 rfl
    have h118 : a.tmps.getD 118 undef = .bool true := hd.1 rfl
    exact step_not (rf_open false rfl rfl h112) rfl _ _ rfl h118 rfl
  trivial
set_option maxRecDepth 100000 in
theorem sqs19_any {Q : Exit → Act → World → Prop} {l : List Oper} (hl : opsOf 19 Try.f4 = l) (hend : ∀ w : World, MI gs (StI w0 Post) w0 true false w → wpList Try.prog l.toArray Q (l.drop 17) (putAll a0 [(103, .int .i64 code), (104, .int .i64 code), (105, .pointer (some ⟨g, 0, none⟩)), (106, .slice (some ⟨b, f, none⟩) n c), (107, .int .i64 t), (108, .pointer (some ⟨b, f + t * 13, none⟩)), (109, .agg (accC u B k d)), (110, .int .i64 code), (111, .bool false), (112, .bool false), (113, .agg (accC u D q x)), (114, .slice (some ⟨b, f, none⟩) n c), (115, .int .i64 t), (116, .pointer (some ⟨b, f + t * 13, none⟩)), (117, .agg (accC u B k d)), (118, .bool true), (119, .bool false)]) w) :
    (Code.region 19 l.toArray true).wp Try.prog Q a0 w0 := by
  subst hl
  refine region_two gs (StI w0 Post) 7 1000 (sqs19F _ _ _ _ _ _ _ _ _ _ _ _ _ _ _ _ _ _) sqs19D 17 147 S.size rfl (by kernel_rfl) (by kernel_rfl) (by kernel_rfl) (by omega) (by omega) (by kernel_rfl) (fun _ _ _ _ h hb => StI.below S.pb h hb) (Below.refl _ _) (sqs19F_mono _ _ _ _ _ _ _ _ _ _ _ _ _ _ _ _ _ _) (sqs19F_monoS) (sqs19_ok S) fun a w hI hF h => ?_
  have hv : valsAre a [(103, .int .i64 code), (104, .int .i64 code), (105, .pointer (some ⟨g, 0, none⟩)), (106, .slice (some ⟨b, f, none⟩) n c), (107, .int .i64 t), (108, .pointer (some ⟨b, f + t * 13, none⟩)), (109, .agg (accC u B k d)), (110, .int .i64 code), (111, .bool false), (112, .bool false), (113, .agg (accC u D q x)), (114, .slice (some ⟨b, f, none⟩) n c), (115, .int .i64 t), (116, .pointer (some ⟨b, f + t * 13, none⟩)), (117, .agg (accC u B k d)), (118, .bool true), (119, .bool false)] := by
    refine ⟨?_, ?_, ?_, ?_, ?_, ?_, ?_, ?_, ?_, ?_, ?_, ?_, ?_, ?_, ?_, ?_, ?_, trivial⟩
    · exact h 0 (some 103) (by omega) rfl
    · exact h 1 (some 104) (by omega) rfl
    · exact h 2 (some 105) (by omega) rfl
    · exact h 3 (some 106) (by omega) rfl
    · exact h 4 (some 107) (by omega) rfl
    · exact h 5 (some 108) (by omega) rfl
    · exact h 6 (some 109) (by omega) rfl
    · exact h 7 (some 110) (by omega) rfl
    · exact h 8 (some 111) (by omega) rfl
    · exact h 9 (some 112) (by omega) rfl
    · exact h 10 (some 113) (by omega) rfl
    · exact h 11 (some 114) (by omega) rfl
    · exact h 12 (some 115) (by omega) rfl
    · exact h 13 (some 116) (by omega) rfl
    · exact h 14 (some 117) (by omega) rfl
    · exact h 15 (some 118) (by omega) rfl
    · exact h 16 (some 119) (by omega) rfl
  rw [frame_is hF _ hv (by rfl) (by rfl)]
  exact hend w hI
end

def sqs24D : List (Option Tmp) := [some 128, some 129, some 130, some 131, some 132, some 133, some 134, some 135, some 136, some 137, some 138, some 139, some 140, some 141, some 142]
def sqs24F (g r _y H ln lc : Nat) (LA : Option Addr) (V : Ac) : List Fact := [isV (.agg (accC V (some ⟨H, 0, none⟩) V.h.length V.h.length)), isV (.pointer (some ⟨r, 0, none⟩)), accI V, isV (.bool true), isV (.bool false), isV (.bool false), isV (.pointer (some ⟨g, 0, none⟩)), isV (.int .i64 ((ln : Int))), isV (.pointer (some ⟨r, 0, none⟩)), isV (.pointer (some ⟨r, 0, none⟩)), isV (.pointer (some ⟨r, 1, none⟩)), isV (.slice LA ln lc), isV (.int .i64 ln), isV (.bool false), isV (.bool false)]
theorem sqs24F_mono (g r y H ln lc : Nat) (LA : Option Addr) (V : Ac) : ∀ φ ∈ sqs24F g r y H ln lc LA V, Mono φ := by
  unfold sqs24F
  refine monos_cons (mono_isV _) ?_
  refine monos_cons (mono_isV _) ?_
  refine monos_cons (accI_mono V) ?_
  refine monos_cons (mono_isV _) ?_
  refine monos_cons (mono_isV _) ?_
  refine monos_cons (mono_isV _) ?_
  refine monos_cons (mono_isV _) ?_
  refine monos_cons (mono_isV _) ?_
  refine monos_cons (mono_isV _) ?_
  refine monos_cons (mono_isV _) ?_
  refine monos_cons (mono_isV _) ?_
  refine monos_cons (mono_isV _) ?_
  refine monos_cons (mono_isV _) ?_
  refine monos_cons (mono_isV _) ?_
  refine monos_cons (mono_isV _) ?_
  exact monos_nil
structure sqs24S (g r y H ln lc : Nat) (LA : Option Addr) (V : Ac) (a0 : Act) (w0 : World) : Prop where
  size : a0.tmps.size = 147
  v7 : a0.tmps.getD 7 undef = .pointer (some ⟨g, 0, none⟩)
  v9 : a0.tmps.getD 9 undef = .pointer (some ⟨r, 0, none⟩)
  v19 : a0.tmps.getD 19 undef = .pointer (some ⟨y, 0, none⟩)
  bx : Has w0 y 29 (accC V (some ⟨H, 0, none⟩) V.h.length V.h.length)
  hh : Ints w0 (some ⟨H, 0, none⟩) V.h.length V.h
  lm : V.h.length ≤ maxLen
  cr : w0.cell? ⟨r, 1, none⟩ = some (.slice LA ln lc)
  ct : ∀ w, Below w0.heap.size w0 w → Calls Try.prog 30 #[.pointer (some ⟨r, 0, none⟩)] w (OutJ V w)
  cl : ∀ w, Below w0.heap.size w0 w → Calls Try.prog 31 #[.pointer (some ⟨g, 0, none⟩)] w fun e w2 => e = .returned (.int .i64 (ln : Int)) ∧ ∃ k, w2 = w.drewN k
section
variable {g r y H ln lc : Nat} {LA : Option Addr} {V : Ac} {a0 : Act} {w0 : World} (S : sqs24S g r y H ln lc LA V a0 w0)
include S
set_option maxRecDepth 100000 in
set_option maxHeartbeats 8000000 in
theorem sqs24_ok : AllOps (fun j o => ∀ (a : Act) (w : World), Below w0.heap.size w0 w → FrD sqs24D a0 a → needs sqs24D (sqs24F g r y H ln lc LA V) a w o.after.toList → StepD Try.prog sqs24D (factAt (sqs24F g r y H ln lc LA V) j) o a w) 0 (opsOf 24 Try.f4) := by
  simp only [opsOf, Try.f4, opsAt, Option.bind, Option.or, Option.getD, reduceCtorEq, if_true, if_false, Nat.reduceEqDiff]
  refine ⟨?_, ?_⟩
  · intro _a _w hB hF _hd
    exact rf_loadA (guard_none rfl) rfl _ rfl y ((hF.other 19 rfl).trans S.v19) (S.bx.below hB S.bx.lt) rfl
  refine ⟨?_, ?_⟩
  · intro _a _w _hB hF _hd
    exact step_move (guard_none rfl) rfl _ rfl ((hF.other 9 rfl).trans S.v9)
  refine ⟨?_, ?_⟩
  · intro a w hB _hF hd
    have h129 : a.tmps.getD 129 undef = .pointer (some ⟨r, 0, none⟩) := hd.1 rfl
    refine step_call (guard_none rfl) rfl _ _ (rf_call_run Try.func30 (by kernel_rfl) (by kernel_rfl) _ _ rfl) ?_
    simp only [List.map_toArray, List.map_cons, List.map_nil, Act.eval, h129]
    exact (S.ct w hB).mono (by rintro e w1 ⟨A, n, c, rfl, hh, hb⟩; exact ⟨_, rfl, hb, A, n, c, rfl, hh⟩)
  refine ⟨?_, ?_⟩
  · intro a w hB _hF hd
    have h128 : a.tmps.getD 128 undef = .agg (accC V (some ⟨H, 0, none⟩) V.h.length V.h.length) := hd.1 rfl
    obtain ⟨A130, n130, c130, h130, p130⟩ : accI V (a.tmps.getD 130 undef) w := hd.2.1 rfl
    refine step_call (guard_none rfl) rfl _ _ (rf_call_run Try.func13 (by kernel_rfl) (by kernel_rfl) _ _ rfl) ?_
    simp only [List.map_toArray, List.map_cons, List.map_nil, Act.eval, h128, h130]
    obtain rfl : V.h.length = n130 := p130.hist.1
    exact (sameAcc_true V _ _ _ _ _ _ (S.hh.below hB) p130.hist S.lm).mono (by rintro e w1 ⟨rfl, hb⟩; exact ⟨_, rfl, hb, rfl⟩)
  refine ⟨?_, ?_⟩
  · intro a _w _hB _hF hd
    have h131 : a.tmps.getD 131 undef = .bool true := hd.1 rfl
    exact step_not (guard_none rfl) rfl _ _ rfl h131 rfl
  refine ⟨?_, ?_⟩
  · intro a _w _hB _hF hd
    have h132 : a.tmps.getD 132 undef = .bool false := hd.1 rfl
    exact step_move (guard_none rfl) rfl _ rfl h132
  refine ⟨?_, ?_⟩
  · intro a _w _hB hF hd
    have h133 : a.tmps.getD 133 undef = .bool false := hd.1 rfl
    exact step_move (rf_open false rfl rfl h133) rfl _ rfl ((hF.other 7 rfl).trans S.v7)
  refine ⟨?_, ?_⟩
  · intro a w hB _hF hd
    have h133 : a.tmps.getD 133 undef = .bool false := hd.2.1 rfl
    have h134 : a.tmps.getD 134 undef = .pointer (some ⟨g, 0, none⟩) := hd.1 rfl
    refine step_call (rf_open false rfl rfl h133) rfl _ _ (rf_call_run Try.func31 (by kernel_rfl) (by kernel_rfl) _ _ rfl) ?_
    simp only [List.map_toArray, List.map_cons, List.map_nil, Act.eval, h134]
    exact (S.cl w hB).mono (by rintro e w1 ⟨rfl, k, rfl⟩; exact ⟨_, rfl, below_drewN (Below.refl _ _) _, rfl⟩)
  refine ⟨?_, ?_⟩
  · intro a _w _hB hF hd
    have h133 : a.tmps.getD 133 undef = .bool false := hd.1 rfl
    exact step_move (rf_open false rfl rfl h133) rfl _ rfl ((hF.other 9 rfl).trans S.v9)
  refine ⟨?_, ?_⟩
  · intro a _w _hB _hF hd
    have h133 : a.tmps.getD 133 undef = .bool false := hd.2.1 rfl
    have h136 : a.tmps.getD 136 undef = .pointer (some ⟨r, 0, none⟩) := hd.1 rfl
    exact rf_nilck (rf_open false rfl rfl h133) rfl _ rfl _ h136 rfl
  refine ⟨?_, ?_⟩
  · intro a _w _hB _hF hd
    have h133 : a.tmps.getD 133 undef = .bool false := hd.2.1 rfl
    have h137 : a.tmps.getD 137 undef = .pointer (some ⟨r, 0, none⟩) := hd.1 rfl
    exact rf_faddr (rf_open false rfl rfl h133) rfl _ _ _ rfl _ _ 1 _ h137 (by omega) (fun _ _ => by kernel_rfl) rfl
  refine ⟨?_, ?_⟩
  · intro a _w hB _hF hd
    have h133 : a.tmps.getD 133 undef = .bool false := hd.2.1 rfl
    have h138 : a.tmps.getD 138 undef = .pointer (some ⟨r, 1, none⟩) := hd.1 rfl
    exact rf_load1 (rf_open false rfl rfl h133) rfl _ _ rfl _ _ h138 (run_ldA ((hB.cell (block_lt_of_cell S.cr)).trans S.cr)) rfl
  refine ⟨?_, ?_⟩
  · intro a _w _hB _hF hd
    have h133 : a.tmps.getD 133 undef = .bool false := hd.2.1 rfl
    have h139 : a.tmps.getD 139 undef = .slice LA ln lc := hd.1 rfl
    exact rf_len (rf_open false rfl rfl h133) rfl _ _ rfl Try.underlying24 _ _ _ h139 rfl
  refine ⟨?_, ?_⟩
  · intro a _w _hB _hF hd
    have h133 : a.tmps.getD 133 undef = .bool false := hd.2.2.1 rfl
    have h135 : a.tmps.getD 135 undef = .int .i64 ((ln : Int)) := hd.1 rfl
    have h140 : a.tmps.getD 140 undef = .int .i64 ln := hd.2.1 rfl
    exact rf_neq (rf_open false rfl rfl h133) rfl _ _ rfl _ _ h135 h140 false (by simp) rfl
  refine ⟨?_, ?_⟩
  · intro a _w _hB _hF hd
    have h133 : a.tmps.getD 133 undef = .bool false := hd.1 rfl
    have h141 : a.tmps.getD 141 undef = .bool false := hd.2.1 rfl
    exact rf_pick (guard_none rfl) rfl _ _ _ rfl false h133 h141
  trivial
theorem sqs24_any {Q : Exit → Act → World → Prop} {l : List Oper} (hl : opsOf 24 Try.f4 = l) (hend : ∀ (A130 : Option Addr) (n130 : Nat) (c130 : Nat), ∀ w : World, Below w0.heap.size w0 w → AccIn w 0 V A130 n130 c130 → Q .normal (putAll a0 [(128, .agg (accC V (some ⟨H, 0, none⟩) V.h.length V.h.length)), (129, .pointer (some ⟨r, 0, none⟩)), (130, .agg (accC V A130 n130 c130)), (131, .bool true), (132, .bool false), (133, .bool false), (134, .pointer (some ⟨g, 0, none⟩)), (135, .int .i64 ((ln : Int))), (136, .pointer (some ⟨r, 0, none⟩)), (137, .pointer (some ⟨r, 0, none⟩)), (138, .pointer (some ⟨r, 1, none⟩)), (139, .slice LA ln lc), (140, .int .i64 ln), (141, .bool false), (142, .bool false)]) w) :
    (Code.region 24 l.toArray true).wp Try.prog Q a0 w0 := by
  subst hl
  refine region_facts2 (sqs24F g r y H ln lc LA V) sqs24D 147 S.size rfl (by kernel_rfl) (by kernel_rfl) (sqs24F_mono _ _ _ _ _ _ _ _) (sqs24_ok S) fun a w hB hF h => ?_
  obtain ⟨A130, n130, c130, h130, p130⟩ : accI V (a.tmps.getD 130 undef) w := h 2 (some 130) rfl
  have hv : valsAre a [(128, .agg (accC V (some ⟨H, 0, none⟩) V.h.length V.h.length)), (129, .pointer (some ⟨r, 0, none⟩)), (130, .agg (accC V A130 n130 c130)), (131, .bool true), (132, .bool false), (133, .bool false), (134, .pointer (some ⟨g, 0, none⟩)), (135, .int .i64 ((ln : Int))), (136, .pointer (some ⟨r, 0, none⟩)), (137, .pointer (some ⟨r, 0, none⟩)), (138, .pointer (some ⟨r, 1, none⟩)), (139, .slice LA ln lc), (140, .int .i64 ln), (141, .bool false), (142, .bool false)] := by
    refine ⟨?_, ?_, ?_, ?_, ?_, ?_, ?_, ?_, ?_, ?_, ?_, ?_, ?_, ?_, ?_, trivial⟩
    · exact h 0 (some 128) rfl
    · exact h 1 (some 129) rfl
    · exact h130
    · exact h 3 (some 131) rfl
    · exact h 4 (some 132) rfl
    · exact h 5 (some 133) rfl
    · exact h 6 (some 134) rfl
    · exact h 7 (some 135) rfl
    · exact h 8 (some 136) rfl
    · exact h 9 (some 137) rfl
    · exact h 10 (some 138) rfl
    · exact h 11 (some 139) rfl
    · exact h 12 (some 140) rfl
    · exact h 13 (some 141) rfl
    · exact h 14 (some 142) rfl
  rw [frame_is hF _ hv (by rfl) (by rfl)]
  exact hend A130 n130 c130 w hB p130
end

end Go.Proofs.Ytjmaeiilkbfnaaa

namespace Go.Proofs.Ytjmaeiilkbfnaaa
open Go.RowKit

open Classical in
noncomputable def gsOf (O : Nat → Prop) (n : Nat) : List Nat := (List.range n).filter fun k => decide (O k)
theorem mem_gsOf {O : Nat → Prop} {n k : Nat} : k ∈ gsOf O n ↔ k < n ∧ O k := by
  unfold gsOf
  simp
section
variable {O O' OP OR : Nat → Prop} {w0 w w' w1 : World} {g r : Nat} {bs : List Int} {xs ys : List Ac} {a : Ac}
theorem butO_butS {n : Nat} (h : ButO O w w') (hO : ∀ k, O k → k < n) : ButS (gsOf O n) w w' := ⟨h.os, h.tape, h.output, h.size, fun k hk hn => h.other k hk (fun e => hn (mem_gsOf.2 ⟨hO k e, e⟩))⟩
theorem LQ.butO (h : LQ w0 O g bs xs w) (hb : ButO O' w w') (hlo : ∀ k, O' k → w0.heap.size ≤ k) (hd : ∀ k, O k → ¬ O' k) : LQ w0 O g bs xs w' :=
  ⟨h.q.same fun k hk => hb.other k (h.hi k hk) (hd k hk), h.lo, fun k hk => Nat.lt_of_lt_of_le (h.hi k hk) hb.size, hb.below h.keep h.size hlo⟩
theorem OwnI.butO {base : Nat} {v : Value} {l : List Int} (h : OwnI w base v l) (hb : ButO O w w') (hn : ∀ k, v.ownBlock = some k → ¬ O k) : OwnI w' base v l := h.same fun k e => by
  obtain ⟨c, hh⟩ := h.has e
  exact hb.other k hh.lt (hn k e)
theorem OwnI.newB {base n c : Nat} {A : Option Addr} {l : List Int} (h : OwnI w base (.slice A n c) l) : ∀ k, (Value.slice A n c).ownBlock = some k → base ≤ k := fun k e => by
  cases A with
  | none => simp [Value.ownBlock] at e
  | some ad =>
    have := h.new ad rfl
    have e2 : some ad.block = some k := e
    injection e2 with e3
    omega
/-- The blocks of a slice. -/
def SlO (v : Value) : Nat → Prop := fun k => v.ownBlock = some k
theorem spoil17 (A : Option Addr) (n c : Nat) (l : List Int) (w : World) (ho : OwnI w 0 (.slice A n c) l) (hn : n ≤ maxLen) :
    Calls Try.prog 17 #[.slice A n c] w fun e w' => e = .returned (.tuple #[]) ∧ ButO (SlO (.slice A n c)) w w' := by
  refine (spoil_own A n c l 0 w ho hn).mono ?_
  rintro e w' ⟨rfl, hb, hk⟩
  refine ⟨rfl, hb.os, hb.tape, hb.output, hb.size, fun k _ hn => hk k fun ad e e2 => hn ?_⟩
  subst e
  show some ad.block = some k
  rw [e2]
/-- Both queues hold the same row, apart from one another. -/
def QQ (w0 : World) (g r : Nat) (bs : List Int) (xs : List Ac) (w : World) : Prop := ∃ OP OR, LQ w0 OP g bs xs w ∧ LR w0 OR r bs xs w ∧ (∀ k, OP k → ¬ OR k) ∧ RowJ bs xs
/-- What is spoiled lies in neither. -/
theorem QQ.spoiled {v : Value} (h1 : LQ w0 OP g bs xs w) (h2 : LR w0 OR r bs xs w) (h3 : ∀ k, OP k → ¬ OR k) (h4 : RowJ bs xs) (hb : ButO (SlO v) w w') (hv : ∀ k, v.ownBlock = some k → w0.heap.size ≤ k ∧ ¬ OP k ∧ ¬ OR k) : QQ w0 g r bs xs w' :=
  ⟨OP, OR, h1.butO hb (fun k hk => (hv k hk).1) (fun k ho hk => (hv k hk).2.1 ho), h2.butO hb (fun k ho hk => (hv k hk).2.2 ho), h3, h4⟩
/-- A push of one into both. -/
theorem both_push (w0 : World) (g r : Nat) (a : Ac) (hJ : RowJ bs xs) (hn : xs.length ≤ 60000) : ∃ (code : Int) (xs2 : List Ac), RowJ bs xs2 ∧ xs2.length ≤ xs.length + 1 ∧
    (∀ O w A k c, LQ w0 O g bs xs w → Ints w A k a.h → k ≤ c → c ≤ maxLen → Calls Try.prog 27 #[.pointer (some ⟨g, 0, none⟩), .agg (accC a A k c)] w fun e w' => e = .returned (.int .i64 code) ∧ ButO O w w' ∧ ∃ O', LQ w0 O' g bs xs2 w' ∧ ∀ k, O' k → O k ∨ w.heap.size ≤ k) ∧
    (∀ O w A k c, LR w0 O r bs xs w → w0.heap.size ≤ w.heap.size → Ints w A k a.h → k ≤ c → c ≤ maxLen → (A = none → c = 0) → k * 8 ≤ 140737488351232 → Calls Try.prog 28 #[.pointer (some ⟨r, 0, none⟩), .agg (accC a A k c)] w fun e w' => e = .returned (.int .i64 code) ∧ ButO O w w' ∧ ∃ O', LR w0 O' r bs xs2 w' ∧ ∀ k, O' k → O k ∨ w.heap.size ≤ k) := by
  have hg : ∀ {O : Nat → Prop} {w w' : World} k, GrowO O w w' k → O k ∨ w.heap.size ≤ k := fun k h => by
    rcases h with h | h
    · exact .inl h
    · exact .inr h.1
  by_cases h2 : RowJ bs (xs ++ [a])
  · refine ⟨0, xs ++ [a], h2, by simp, fun O w A k c h hu hk hc => (h.push (by omega) hu hk hc h2).mono ?_, fun O w A k c h hw hu hk hc hnil hk8 => (h.push hw (by omega) hu hk hc hnil hk8 h2).mono ?_⟩
    · rintro e w' ⟨rfl, h3, h4⟩
      exact ⟨rfl, h4, _, h3, hg⟩
    · rintro e w' ⟨rfl, h3, h4⟩
      exact ⟨rfl, h4, _, h3, hg⟩
  · refine ⟨1700, xs, hJ, by omega, fun O w A k c h hu hk hc => (h.q.push_no hJ (by omega) hu hk hc h2).mono ?_, fun O w A k c h hw hu hk hc hnil hk8 => (h.push_no hJ (by omega) hu hk hc h2).mono ?_⟩
    · rintro e w' ⟨rfl, hb⟩
      exact ⟨rfl, below_butO hb O, O, h.below hb, fun _ h => .inl h⟩
    · rintro e w' ⟨rfl, hb⟩
      exact ⟨rfl, below_butO hb O, O, h.below hb, fun _ h => .inl h⟩
theorem AccAt.belowW {b o k c : Nat} {A : Option Addr} (h : AccAt w b o a A k c) (hb : Below w.heap.size w w') : AccAt w' b o a A k c := h.keep fun _ hp => hb.cell hp
/-- What the statement's own queue's Push leaves, behind a look at w1. -/
def PostR (w0 w1 : World) (O : Nat → Prop) (r : Nat) (bs : List Int) (xs : List Ac) (w : World) : Prop := ∃ O', LR w0 O' r bs xs w ∧ ∀ k, O' k → O k ∨ w1.heap.size ≤ k
theorem PostR.below (h : PostR w0 w1 OR r bs xs w) (hb : Below w.heap.size w w') : PostR w0 w1 OR r bs xs w' := by
  obtain ⟨O', h1, h2⟩ := h
  exact ⟨O', h1.below hb, h2⟩
theorem own_of_has {H : Nat} {l : List Int} (h : Has w H 3 (ints l)) (hl : l.length ≤ maxLen) : OwnI w 0 (.slice (some ⟨H, 0, none⟩) l.length l.length) l := by
  refine ⟨by simp [intL], .inr ⟨H, l.length, ints l, rfl, Nat.zero_le _, h, Nat.le_refl _, hl, by simp [ints], ?_⟩⟩
  simp only [ints, intL, Nat.mul_one]
  exact List.take_of_length_le (by simp)
end

end Go.Proofs.Ytjmaeiilkbfnaaa

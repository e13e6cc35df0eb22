import Derived.Test.YtbpaepkcchpmbaaGreatG40
import Derived.Test.YtbpaepkcchpmbaaGreatG25
import Derived.Great.Walk
namespace Go.Proofs.YtbpaepkcchpmbaaGreat
open Go.RowKit
def hsw0D : List (Option Tmp) := [some 6, some 7, some 8, some 9, some 10, some 11, some 12, some 13, some 14, some 15, some 16, some 17, some 18, some 19, some 20, some 21, some 22, some 23, some 24, some 25, some 26, some 27, some 28, some 29, some 30, some 31, some 32, some 33, some 34, none, some 35, none]
def hsw0F (g b n c k1 k2 : Nat) (_m z1 z2 : Int) (x y : It) (_ys : List It) : List Fact := [isV (.pointer (some ⟨g, 0, none⟩)), isV (.pointer (some ⟨g, 0, none⟩)), isV (.pointer (some ⟨g, 1, none⟩)), isV (.slice (some ⟨b, 0, none⟩) n c), isV (.int .i64 z1), isV (.int .i64 k1), isV (.pointer (some ⟨g, 0, none⟩)), isV (.pointer (some ⟨g, 0, none⟩)), isV (.pointer (some ⟨g, 1, none⟩)), isV (.slice (some ⟨b, 0, none⟩) n c), isV (.int .i64 z2), isV (.int .i64 k2), isV (.pointer (some ⟨g, 0, none⟩)), isV (.pointer (some ⟨g, 0, none⟩)), isV (.pointer (some ⟨g, 1, none⟩)), isV (.slice (some ⟨b, 0, none⟩) n c), isV (.int .i64 z2), isV (.int .i64 k2), isV (.pointer (some ⟨b, k2 * 4, none⟩)), isV (.agg #[.int .i64 y.s, .int .i64 y.t, .int .i64 y.q, .int .i64 y.v]), isV (.pointer (some ⟨g, 0, none⟩)), isV (.pointer (some ⟨g, 0, none⟩)), isV (.pointer (some ⟨g, 1, none⟩)), isV (.slice (some ⟨b, 0, none⟩) n c), isV (.int .i64 z1), isV (.int .i64 k1), isV (.pointer (some ⟨b, k1 * 4, none⟩)), isV (.agg #[.int .i64 x.s, .int .i64 x.t, .int .i64 x.q, .int .i64 x.v]), isV (.pointer (some ⟨b, k1 * 4, none⟩)), isV (undef), isV (.pointer (some ⟨b, k2 * 4, none⟩))]
theorem hsw0F_mono (g b n c k1 k2 : Nat) (m z1 z2 : Int) (x y : It) (ys : List It) : ∀ φ ∈ hsw0F g b n c k1 k2 m z1 z2 x y ys, Mono φ := by
  unfold hsw0F
  repeat (first | exact monos_nil | (refine monos_cons (mono_isV _) ?_))
structure hsw0S (g b n c k1 k2 : Nat) (m z1 z2 : Int) (x y : It) (ys : List It) (a0 : Act) (w0 : World) : Prop where
  size : a0.tmps.size = 36
  v0 : a0.tmps.getD 0 undef = .pointer (some ⟨g, 0, none⟩)
  v1 : a0.tmps.getD 1 undef = .int .i64 z1
  v2 : a0.tmps.getD 2 undef = .int .i64 z2
  st : Has w0 g 161 (hpC m (some ⟨b, 0, none⟩) n c)
  own : OwnIt w0 0 (.slice (some ⟨b, 0, none⟩) n c) ys
  lk1 : k1 < n
  lk2 : k2 < n
  hn : n ≤ 17592186044416
  ek1 : z1 - 1 = k1
  ek2 : z2 - 1 = k2
  ik1 : nthI ys k1 = x
  ik2 : nthI ys k2 = y
section
variable {g b n c k1 k2 : Nat} {m z1 z2 : Int} {x y : It} {ys : List It} {a0 : Act} {w0 : World} (S : hsw0S g b n c k1 k2 m z1 z2 x y ys a0 w0)
include S
theorem hsw0_ne : g ≠ b := fun e => by
  obtain ⟨_, _, _, _, cur, h5, _⟩ := S.own.blk
  subst e
  exact has_types S.st h5 (by decide)
omit S in
theorem hsw0F_monoS : ∀ φ ∈ hsw0F g b n c k1 k2 m z1 z2 x y ys, MonoS [b] φ := by
  unfold hsw0F
  repeat (first | exact allS_nil _ | (refine allS_cons (isV_monoS _ _) ?_))
set_option maxRecDepth 100000 in
set_option maxHeartbeats 8000000 in
theorem hsw0_ok : AllOps (fun j o => ∀ (a : Act) (w : World) (b1 b2 : Bool), (j = 29 → b1 = false ∧ b2 = false) → (j = 1000 → b1 = true ∧ b2 = false) → (j ∈ ([19, 27] : List Nat) → b1 = false) → MI [b] (RowI 161 g b n c m ys (ys.set k1 y)) w0 b1 b2 w → FrD (hsw0D.take 31) a0 a → needs hsw0D (hsw0F g b n c k1 k2 m z1 z2 x y ys) a w o.after.toList → AskM Tryz.prog hsw0D (factAt (hsw0F g b n c k1 k2 m z1 z2 x y ys) j) (ButS [b]) (ButS [b]) (MI [b] (RowI 161 g b n c m ys (ys.set k1 y)) w0) 29 1000 j o a w) 0 ((opsOf 0 Tryz.f136).take 31) := by
  simp only [opsOf, Tryz.f136, opsAt, Option.bind, Option.getD, if_true, List.take_succ_cons, List.take_zero]
  refine ⟨?_, ?_⟩
  · intro a w b1 b2 h1 h2 he hI hF hd
    refine askM_d (by decide) (by decide) ?_
    exact step_move (guard_none rfl) rfl _ rfl ((hF.other 0 rfl).trans S.v0)
  refine ⟨?_, ?_⟩
  · intro a w b1 b2 h1 h2 he hI hF hd
    refine askM_d (by decide) (by decide) ?_
    have h6 : a.tmps.getD 6 undef = .pointer (some ⟨g, 0, none⟩) := hd.1 rfl
    exact rf_nilck (guard_none rfl) rfl _ rfl _ h6 rfl
  refine ⟨?_, ?_⟩
  · intro a w b1 b2 h1 h2 he hI hF hd
    refine askM_d (by decide) (by decide) ?_
    have h7 : a.tmps.getD 7 undef = .pointer (some ⟨g, 0, none⟩) := hd.1 rfl
    exact rf_faddr (guard_none rfl) rfl _ _ _ rfl _ _ 1 _ h7 (by omega) (fun _ _ => by kernel_rfl) rfl
  refine ⟨?_, ?_⟩
  · intro a w b1 b2 h1 h2 he hI hF hd
    refine askM_d (by decide) (by decide) ?_
    have h8 : a.tmps.getD 8 undef = .pointer (some ⟨g, 1, none⟩) := hd.1 rfl
    exact rf_load1 (guard_none rfl) rfl _ _ rfl _ _ h8 (run_ldIt ((Has.cell hI.st.1 1).trans rfl)) rfl
  refine ⟨?_, ?_⟩
  · intro a w b1 b2 h1 h2 he hI hF hd
    refine askM_d (by decide) (by decide) ?_
    exact step_move (guard_none rfl) rfl _ rfl ((hF.other 1 rfl).trans S.v1)
  refine ⟨?_, ?_⟩
  · intro a w b1 b2 h1 h2 he hI hF hd
    refine askM_d (by decide) (by decide) ?_
    have h10 : a.tmps.getD 10 undef = .int .i64 z1 := hd.1 rfl
    exact rf_subr (guard_none rfl) rfl _ _ rfl z1 1 k1 h10 rfl S.ek1 (by have := S.lk1; have := S.hn; omega) (by have := S.lk1; have := S.hn; omega) rfl
  refine ⟨?_, ?_⟩
  · intro a w b1 b2 h1 h2 he hI hF hd
    refine askM_d (by decide) (by decide) ?_
    exact step_move (guard_none rfl) rfl _ rfl ((hF.other 0 rfl).trans S.v0)
  refine ⟨?_, ?_⟩
  · intro a w b1 b2 h1 h2 he hI hF hd
    refine askM_d (by decide) (by decide) ?_
    have h12 : a.tmps.getD 12 undef = .pointer (some ⟨g, 0, none⟩) := hd.1 rfl
    exact rf_nilck (guard_none rfl) rfl _ rfl _ h12 rfl
  refine ⟨?_, ?_⟩
  · intro a w b1 b2 h1 h2 he hI hF hd
    refine askM_d (by decide) (by decide) ?_
    have h13 : a.tmps.getD 13 undef = .pointer (some ⟨g, 0, none⟩) := hd.1 rfl
    exact rf_faddr (guard_none rfl) rfl _ _ _ rfl _ _ 1 _ h13 (by omega) (fun _ _ => by kernel_rfl) rfl
  refine ⟨?_, ?_⟩
  · intro a w b1 b2 h1 h2 he hI hF hd
    refine askM_d (by decide) (by decide) ?_
    have h14 : a.tmps.getD 14 undef = .pointer (some ⟨g, 1, none⟩) := hd.1 rfl
    exact rf_load1 (guard_none rfl) rfl _ _ rfl _ _ h14 (run_ldIt ((Has.cell hI.st.1 1).trans rfl)) rfl
  refine ⟨?_, ?_⟩
  · intro a w b1 b2 h1 h2 he hI hF hd
    refine askM_d (by decide) (by decide) ?_
    exact step_move (guard_none rfl) rfl _ rfl ((hF.other 2 rfl).trans S.v2)
  refine ⟨?_, ?_⟩
  · intro a w b1 b2 h1 h2 he hI hF hd
    refine askM_d (by decide) (by decide) ?_
    have h16 : a.tmps.getD 16 undef = .int .i64 z2 := hd.1 rfl
    exact rf_subr (guard_none rfl) rfl _ _ rfl z2 1 k2 h16 rfl S.ek2 (by have := S.lk2; have := S.hn; omega) (by have := S.lk2; have := S.hn; omega) rfl
  refine ⟨?_, ?_⟩
  · intro a w b1 b2 h1 h2 he hI hF hd
    refine askM_d (by decide) (by decide) ?_
    exact step_move (guard_none rfl) rfl _ rfl ((hF.other 0 rfl).trans S.v0)
  refine ⟨?_, ?_⟩
  · intro a w b1 b2 h1 h2 he hI hF hd
    refine askM_d (by decide) (by decide) ?_
    have h18 : a.tmps.getD 18 undef = .pointer (some ⟨g, 0, none⟩) := hd.1 rfl
    exact rf_nilck (guard_none rfl) rfl _ rfl _ h18 rfl
  refine ⟨?_, ?_⟩
  · intro a w b1 b2 h1 h2 he hI hF hd
    refine askM_d (by decide) (by decide) ?_
    have h19 : a.tmps.getD 19 undef = .pointer (some ⟨g, 0, none⟩) := hd.1 rfl
    exact rf_faddr (guard_none rfl) rfl _ _ _ rfl _ _ 1 _ h19 (by omega) (fun _ _ => by kernel_rfl) rfl
  refine ⟨?_, ?_⟩
  · intro a w b1 b2 h1 h2 he hI hF hd
    refine askM_d (by decide) (by decide) ?_
    have h20 : a.tmps.getD 20 undef = .pointer (some ⟨g, 1, none⟩) := hd.1 rfl
    exact rf_load1 (guard_none rfl) rfl _ _ rfl _ _ h20 (run_ldIt ((Has.cell hI.st.1 1).trans rfl)) rfl
  refine ⟨?_, ?_⟩
  · intro a w b1 b2 h1 h2 he hI hF hd
    refine askM_d (by decide) (by decide) ?_
    exact step_move (guard_none rfl) rfl _ rfl ((hF.other 2 rfl).trans S.v2)
  refine ⟨?_, ?_⟩
  · intro a w b1 b2 h1 h2 he hI hF hd
    refine askM_d (by decide) (by decide) ?_
    have h22 : a.tmps.getD 22 undef = .int .i64 z2 := hd.1 rfl
    exact rf_subr (guard_none rfl) rfl _ _ rfl z2 1 k2 h22 rfl S.ek2 (by have := S.lk2; have := S.hn; omega) (by have := S.lk2; have := S.hn; omega) rfl
  refine ⟨?_, ?_⟩
  · intro a w b1 b2 h1 h2 he hI hF hd
    refine askM_d (by decide) (by decide) ?_
    have h21 : a.tmps.getD 21 undef = .slice (some ⟨b, 0, none⟩) n c := hd.1 rfl
    have h23 : a.tmps.getD 23 undef = .int .i64 k2 := hd.2.1 rfl
    exact rf_indexIt0 (guard_none rfl) rfl _ _ rfl b n c k2 _ h21 h23 rfl S.lk2 rfl
  refine ⟨?_, ?_⟩
  · intro a w b1 b2 h1 h2 he hI hF hd
    refine askM_d (by decide) (by decide) ?_
    have h24 : a.tmps.getD 24 undef = .pointer (some ⟨b, k2 * 4, none⟩) := hd.1 rfl
    exact rf_loadIt (guard_none rfl) rfl _ rfl _ _ h24 y (by obtain rfl := he (by decide); have := (hI.st.2).item S.lk2; rw [if_neg (by simp), S.ik2] at this; exact this) rfl
  refine ⟨?_, ?_⟩
  · intro a w b1 b2 h1 h2 he hI hF hd
    refine askM_d (by decide) (by decide) ?_
    exact step_move (guard_none rfl) rfl _ rfl ((hF.other 0 rfl).trans S.v0)
  refine ⟨?_, ?_⟩
  · intro a w b1 b2 h1 h2 he hI hF hd
    refine askM_d (by decide) (by decide) ?_
    have h26 : a.tmps.getD 26 undef = .pointer (some ⟨g, 0, none⟩) := hd.1 rfl
    exact rf_nilck (guard_none rfl) rfl _ rfl _ h26 rfl
  refine ⟨?_, ?_⟩
  · intro a w b1 b2 h1 h2 he hI hF hd
    refine askM_d (by decide) (by decide) ?_
    have h27 : a.tmps.getD 27 undef = .pointer (some ⟨g, 0, none⟩) := hd.1 rfl
    exact rf_faddr (guard_none rfl) rfl _ _ _ rfl _ _ 1 _ h27 (by omega) (fun _ _ => by kernel_rfl) rfl
  refine ⟨?_, ?_⟩
  · intro a w b1 b2 h1 h2 he hI hF hd
    refine askM_d (by decide) (by decide) ?_
    have h28 : a.tmps.getD 28 undef = .pointer (some ⟨g, 1, none⟩) := hd.1 rfl
    exact rf_load1 (guard_none rfl) rfl _ _ rfl _ _ h28 (run_ldIt ((Has.cell hI.st.1 1).trans rfl)) rfl
  refine ⟨?_, ?_⟩
  · intro a w b1 b2 h1 h2 he hI hF hd
    refine askM_d (by decide) (by decide) ?_
    exact step_move (guard_none rfl) rfl _ rfl ((hF.other 1 rfl).trans S.v1)
  refine ⟨?_, ?_⟩
  · intro a w b1 b2 h1 h2 he hI hF hd
    refine askM_d (by decide) (by decide) ?_
    have h30 : a.tmps.getD 30 undef = .int .i64 z1 := hd.1 rfl
    exact rf_subr (guard_none rfl) rfl _ _ rfl z1 1 k1 h30 rfl S.ek1 (by have := S.lk1; have := S.hn; omega) (by have := S.lk1; have := S.hn; omega) rfl
  refine ⟨?_, ?_⟩
  · intro a w b1 b2 h1 h2 he hI hF hd
    refine askM_d (by decide) (by decide) ?_
    have h29 : a.tmps.getD 29 undef = .slice (some ⟨b, 0, none⟩) n c := hd.1 rfl
    have h31 : a.tmps.getD 31 undef = .int .i64 k1 := hd.2.1 rfl
    exact rf_indexIt0 (guard_none rfl) rfl _ _ rfl b n c k1 _ h29 h31 rfl S.lk1 rfl
  refine ⟨?_, ?_⟩
  · intro a w b1 b2 h1 h2 he hI hF hd
    refine askM_d (by decide) (by decide) ?_
    have h32 : a.tmps.getD 32 undef = .pointer (some ⟨b, k1 * 4, none⟩) := hd.1 rfl
    exact rf_loadIt (guard_none rfl) rfl _ rfl _ _ h32 x (by obtain rfl := he (by decide); have := (hI.st.2).item S.lk1; rw [if_neg (by simp), S.ik1] at this; exact this) rfl
  refine ⟨?_, ?_⟩
  · intro a w b1 b2 h1 h2 he hI hF hd
    refine askM_d (by decide) (by decide) ?_
    have h9 : a.tmps.getD 9 undef = .slice (some ⟨b, 0, none⟩) n c := hd.1 rfl
    have h11 : a.tmps.getD 11 undef = .int .i64 k1 := hd.2.1 rfl
    exact rf_indexIt0 (guard_none rfl) rfl _ _ rfl b n c k1 _ h9 h11 rfl S.lk1 rfl
  refine ⟨?_, ?_⟩
  · intro a w b1 b2 h1 h2 he hI hF hd
    refine askM_1 rfl ?_
    have h34 : a.tmps.getD 34 undef = .pointer (some ⟨b, k1 * 4, none⟩) := hd.1 rfl
    have h25 : a.tmps.getD 25 undef = .agg #[.int .i64 y.s, .int .i64 y.t, .int .i64 y.q, .int .i64 y.v] := hd.2.1 rfl
    obtain ⟨rfl, rfl⟩ := h1 rfl
    have ho := hI.st.2
    rw [if_neg (by simp)] at ho
    have hset := ho.set S.lk1 y
    exact stepL_item rfl rfl _ _ rfl b (k1 * 4) y h34 h25 (ho.there S.lk1) hI hset.2 ⟨hI.st.1.butS hset.2 (by simpa using hsw0_ne S), by rw [if_pos rfl]; exact hset.1⟩ rfl
  refine ⟨?_, ?_⟩
  · intro a w b1 b2 h1 h2 he hI hF hd
    refine askM_d (by decide) (by decide) ?_
    have h15 : a.tmps.getD 15 undef = .slice (some ⟨b, 0, none⟩) n c := hd.1 rfl
    have h17 : a.tmps.getD 17 undef = .int .i64 k2 := hd.2.1 rfl
    exact rf_indexIt0 (guard_none rfl) rfl _ _ rfl b n c k2 _ h15 h17 rfl S.lk2 rfl
  trivial
set_option maxRecDepth 100000 in
theorem hsw0_any {Q : Exit → Act → World → Prop} {l : List Oper} (hl : opsOf 0 Tryz.f136 = l) (hend : ∀ w : World, MI [b] (RowI 161 g b n c m ys (ys.set k1 y)) w0 true false w → wpList Tryz.prog l.toArray Q (l.drop 31) (putAll a0 [(6, .pointer (some ⟨g, 0, none⟩)), (7, .pointer (some ⟨g, 0, none⟩)), (8, .pointer (some ⟨g, 1, none⟩)), (9, .slice (some ⟨b, 0, none⟩) n c), (10, .int .i64 z1), (11, .int .i64 k1), (12, .pointer (some ⟨g, 0, none⟩)), (13, .pointer (some ⟨g, 0, none⟩)), (14, .pointer (some ⟨g, 1, none⟩)), (15, .slice (some ⟨b, 0, none⟩) n c), (16, .int .i64 z2), (17, .int .i64 k2), (18, .pointer (some ⟨g, 0, none⟩)), (19, .pointer (some ⟨g, 0, none⟩)), (20, .pointer (some ⟨g, 1, none⟩)), (21, .slice (some ⟨b, 0, none⟩) n c), (22, .int .i64 z2), (23, .int .i64 k2), (24, .pointer (some ⟨b, k2 * 4, none⟩)), (25, .agg #[.int .i64 y.s, .int .i64 y.t, .int .i64 y.q, .int .i64 y.v]), (26, .pointer (some ⟨g, 0, none⟩)), (27, .pointer (some ⟨g, 0, none⟩)), (28, .pointer (some ⟨g, 1, none⟩)), (29, .slice (some ⟨b, 0, none⟩) n c), (30, .int .i64 z1), (31, .int .i64 k1), (32, .pointer (some ⟨b, k1 * 4, none⟩)), (33, .agg #[.int .i64 x.s, .int .i64 x.t, .int .i64 x.q, .int .i64 x.v]), (34, .pointer (some ⟨b, k1 * 4, none⟩)), (35, .pointer (some ⟨b, k2 * 4, none⟩))]) w) :
    (Code.region 0 l.toArray true).wp Tryz.prog Q a0 w0 := by
  subst hl
  refine region_twoE [b] (RowI 161 g b n c m ys (ys.set k1 y)) 29 1000 (hsw0F _ _ _ _ _ _ _ _ _ _ _ _) hsw0D 31 36 S.size rfl (by kernel_rfl) (by kernel_rfl) (by kernel_rfl) [19, 27] (by kernel_rfl) (by omega) (by omega) (by kernel_rfl) (fun _ _ _ _ h hb => RowI.below h hb) (⟨S.st, by rw [if_neg (by simp)]; exact S.own⟩) (hsw0F_mono _ _ _ _ _ _ _ _ _ _ _ _) (hsw0F_monoS) (hsw0_ok S) fun a w hI hF h => ?_
  have hv : valsAre a [(6, .pointer (some ⟨g, 0, none⟩)), (7, .pointer (some ⟨g, 0, none⟩)), (8, .pointer (some ⟨g, 1, none⟩)), (9, .slice (some ⟨b, 0, none⟩) n c), (10, .int .i64 z1), (11, .int .i64 k1), (12, .pointer (some ⟨g, 0, none⟩)), (13, .pointer (some ⟨g, 0, none⟩)), (14, .pointer (some ⟨g, 1, none⟩)), (15, .slice (some ⟨b, 0, none⟩) n c), (16, .int .i64 z2), (17, .int .i64 k2), (18, .pointer (some ⟨g, 0, none⟩)), (19, .pointer (some ⟨g, 0, none⟩)), (20, .pointer (some ⟨g, 1, none⟩)), (21, .slice (some ⟨b, 0, none⟩) n c), (22, .int .i64 z2), (23, .int .i64 k2), (24, .pointer (some ⟨b, k2 * 4, none⟩)), (25, .agg #[.int .i64 y.s, .int .i64 y.t, .int .i64 y.q, .int .i64 y.v]), (26, .pointer (some ⟨g, 0, none⟩)), (27, .pointer (some ⟨g, 0, none⟩)), (28, .pointer (some ⟨g, 1, none⟩)), (29, .slice (some ⟨b, 0, none⟩) n c), (30, .int .i64 z1), (31, .int .i64 k1), (32, .pointer (some ⟨b, k1 * 4, none⟩)), (33, .agg #[.int .i64 x.s, .int .i64 x.t, .int .i64 x.q, .int .i64 x.v]), (34, .pointer (some ⟨b, k1 * 4, none⟩)), (35, .pointer (some ⟨b, k2 * 4, none⟩))] := by
    refine ⟨?_, ?_, ?_, ?_, ?_, ?_, ?_, ?_, ?_, ?_, ?_, ?_, ?_, ?_, ?_, ?_, ?_, ?_, ?_, ?_, ?_, ?_, ?_, ?_, ?_, ?_, ?_, ?_, ?_, ?_, trivial⟩
    · exact h 0 (some 6) (by omega) rfl
    · exact h 1 (some 7) (by omega) rfl
    · exact h 2 (some 8) (by omega) rfl
    · exact h 3 (some 9) (by omega) rfl
    · exact h 4 (some 10) (by omega) rfl
    · exact h 5 (some 11) (by omega) rfl
    · exact h 6 (some 12) (by omega) rfl
    · exact h 7 (some 13) (by omega) rfl
    · exact h 8 (some 14) (by omega) rfl
    · exact h 9 (some 15) (by omega) rfl
    · exact h 10 (some 16) (by omega) rfl
    · exact h 11 (some 17) (by omega) rfl
    · exact h 12 (some 18) (by omega) rfl
    · exact h 13 (some 19) (by omega) rfl
    · exact h 14 (some 20) (by omega) rfl
    · exact h 15 (some 21) (by omega) rfl
    · exact h 16 (some 22) (by omega) rfl
    · exact h 17 (some 23) (by omega) rfl
    · exact h 18 (some 24) (by omega) rfl
    · exact h 19 (some 25) (by omega) rfl
    · exact h 20 (some 26) (by omega) rfl
    · exact h 21 (some 27) (by omega) rfl
    · exact h 22 (some 28) (by omega) rfl
    · exact h 23 (some 29) (by omega) rfl
    · exact h 24 (some 30) (by omega) rfl
    · exact h 25 (some 31) (by omega) rfl
    · exact h 26 (some 32) (by omega) rfl
    · exact h 27 (some 33) (by omega) rfl
    · exact h 28 (some 34) (by omega) rfl
    · exact h 30 (some 35) (by omega) rfl
  rw [frame_is hF _ hv (by rfl) (by rfl)]
  exact hend w hI
end
end Go.Proofs.YtbpaepkcchpmbaaGreat
namespace Go.Proofs.YtbpaepkcchpmbaaGreat
open Go.RowKit
abbrev HT : TypeId := 161
set_option maxRecDepth 100000 in
set_option maxHeartbeats 1000000 in
theorem at_raw (g b n c p : Nat) (z : Int) (x : It) (w : World) (c1 : w.cell? ⟨g, 1, none⟩ = some (.slice (some ⟨b, 0, none⟩) n c)) (hx : w.rangeAt b (p * 4) (itemL x)) (hp : p < n) (hn : n ≤ 17592186044416) (hz : z = (p : Int) + 1) :
    Calls Tryz.prog 184 #[.pointer (some ⟨g, 0, none⟩), .int .i64 z] w fun e w' => e = .returned (itV x) ∧ Below w.heap.size w w' := by
  subst hz
  have hg : g < w.heap.size := block_lt_of_cell c1
  have c1' : ∀ o, (w.alloc o).cell? ⟨g, 1, none⟩ = some (.slice (some ⟨b, 0, none⟩) n c) := fun o => ((Below.refl _ w).alloc (Nat.le_refl _) o).cell hg |>.trans c1
  have HX : Hid (∀ o, (w.alloc o).rangeAt b (p * 4) (itemL x)) := fun o => rangeAt_keep hx (by simp [itemL]) fun _ hp => ((Below.refl _ w).alloc (Nat.le_refl _) o).cell hp
  have HAL : Hid (∀ o, Below w.heap.size w (w.alloc o)) := fun o => (Below.refl _ _).alloc (Nat.le_refl _) o
  clear hx c1
  go_enter Tryz.func184, Tryz.ntmps184
  go_wp2_with (refine load_item rfl _ rfl b (p * 4) (by simp [go_sem]) (HX.out _) ?_)
  exact bodyPost_ret (v := itV x) (by simp [results, Tryz.results184, go_sem]) rfl ⟨rfl, HAL.out _⟩
section
variable {gs : List Nat} {g c : Nat} {m : Int} {ys : List It} {A : Option Addr} {w : World}
theorem HpAt.place (h : HpAt HT w gs g m ys A c) {p : Nat} (h1 : 1 ≤ p) (h2 : p ≤ ys.length) : ∃ b, A = some ⟨b, 0, none⟩ ∧ w.rangeAt b ((p - 1) * 4) (itemL (pl ys p)) := by
  obtain ⟨b, rfl⟩ := h.ablk (by omega)
  exact ⟨b, rfl, h.own.item (by omega)⟩
theorem at_any (h : HpAt HT w gs g m ys A c) {p : Nat} (h1 : 1 ≤ p) (h2 : p ≤ ys.length) (hn : ys.length ≤ 8192) (z : Int) (hz : z = p) :
    Calls Tryz.prog 184 #[.pointer (some ⟨g, 0, none⟩), .int .i64 z] w fun e w' => e = .returned (itV (pl ys p)) ∧ Below w.heap.size w w' := by
  obtain ⟨b, rfl, hx⟩ := h.place h1 h2
  exact at_raw g b ys.length c (p - 1) z (pl ys p) w h.c1 hx (by omega) (by omega) (by omega)
set_option maxRecDepth 100000 in
set_option maxHeartbeats 1000000 in
theorem ahead_any (h : HpAt HT w gs g m ys A c) {p q : Nat} (h1 : 1 ≤ p) (h2 : p ≤ ys.length) (h3 : 1 ≤ q) (h4 : q ≤ ys.length) (hn : ys.length ≤ 8192) (z1 z2 : Int) (hz1 : z1 = p) (hz2 : z2 = q) :
    Calls Tryz.prog 135 #[.pointer (some ⟨g, 0, none⟩), .int .i64 z1, .int .i64 z2] w fun e w' => e = .returned (.bool (lt4 (pl ys p) (pl ys q))) ∧ Below w.heap.size w w' := by
  have H1 := Lib.hid (at_any h h1 h2 hn z1 hz1)
  have H2 : Hid (∀ w', Below w.heap.size w w' → Calls Tryz.prog 184 #[.pointer (some ⟨g, 0, none⟩), .int .i64 z2] w' fun e w2 => e = .returned (itV (pl ys q)) ∧ Below w'.heap.size w' w2) := fun w' hb => at_any (h.below hb) h3 h4 hn z2 hz2
  clear h hz1 hz2
  rw [← cmp4_lt]
  generalize pl ys p = x at H1 ⊢
  generalize pl ys q = y at H2 ⊢
  go_enter Tryz.func135, Tryz.ntmps135
  go_wp2_with fail
  refine (H1.out).mono ?_
  rintro e w1 ⟨rfl, hb⟩
  have HB := Lib.hid hb; clear hb
  go_wp2_with fail
  refine (H2.out _ HB.out).mono ?_
  rintro e w2 ⟨rfl, hb⟩
  have HB2 := Lib.hid (HB.out.trans (hb.mono HB.out.size)); clear hb
  go_wp2_with fail
  refine (compare4_any x y _).mono ?_
  rintro e w3 ⟨rfl, hb⟩
  have HB3 := Lib.hid (HB2.out.trans (hb.mono HB2.out.size)); clear hb
  go_wp2_with fail
  go_ret
  exact ⟨rfl, HB3.out⟩
set_option maxRecDepth 100000 in
set_option maxHeartbeats 1000000 in
theorem kid_any (h : HpAt HT w gs g m ys A c) {p : Nat} (h1 : 1 ≤ p) (h2 : p ≤ 8192) (hn : ys.length ≤ 8192) (z : Int) (hz : z = p) :
    Calls Tryz.prog 185 #[.pointer (some ⟨g, 0, none⟩), .int .i64 z] w fun e w' => e = .returned (.int .i64 (kid ys p : Nat)) ∧ Below w.heap.size w w' := by
  have c1 := h.c1
  unfold kid
  by_cases e1 : ys.length < 2 * p
  · rw [if_pos e1]
    generalize ys.length = n at c1 e1 hn
    clear h
    go_enter Tryz.func185, Tryz.ntmps185
    go_wp2_with fail
    go_ret
    exact ⟨rfl, Below.refl _ _⟩
  · rw [if_neg e1]
    by_cases e2 : 2 * p < ys.length
    · have H1 := Lib.hid (ahead_any h (p := 2 * p + 1) (q := 2 * p) (by omega) (by omega) (by omega) (by omega) hn (2 * (p : Int) + 1) (2 * (p : Int)) (by omega) (by omega))
      generalize hb : lt4 (pl ys (2 * p + 1)) (pl ys (2 * p)) = b at H1 ⊢
      have er : (if 2 * p < ys.length ∧ b = true then 2 * p + 1 else 2 * p) = if b = true then 2 * p + 1 else 2 * p := by cases b <;> simp [e2]
      rw [er]
      clear er h hb
      generalize ys.length = n at c1 e1 e2 hn
      subst hz
      cases b with
      | true =>
        go_enter Tryz.func185, Tryz.ntmps185
        go_wp2_with fail
        refine (H1.out).mono ?_
        rintro e w1 ⟨rfl, hb⟩
        have HB := Lib.hid hb; clear hb
        go_wp2_with fail
        go_ret
        exact ⟨by simp, HB.out⟩
      | false =>
        go_enter Tryz.func185, Tryz.ntmps185
        go_wp2_with fail
        refine (H1.out).mono ?_
        rintro e w1 ⟨rfl, hb⟩
        have HB := Lib.hid hb; clear hb
        go_wp2_with fail
        go_ret
        exact ⟨by simp, HB.out⟩
    · rw [if_neg (fun h => e2 h.1)]
      clear h
      generalize ys.length = n at c1 e1 e2 hn
      go_enter Tryz.func185, Tryz.ntmps185
      go_wp2_with fail
      go_ret
      exact ⟨by subst hz; simp, Below.refl _ _⟩
end
end Go.Proofs.YtbpaepkcchpmbaaGreat
namespace Go.Proofs.YtbpaepkcchpmbaaGreat
open Go.RowKit
section
variable {gs : List Nat} {g c : Nat} {m : Int} {ys : List It} {A : Option Addr} {w w' : World}
theorem HpAt.swapped {b : Nat} (h : HpAt HT w gs g m ys (some ⟨b, 0, none⟩) c) {p q : Nat} (h3 : 1 ≤ q) (h4 : q ≤ ys.length)
    (hI : MI [b] (RowI HT g b ys.length c m ys (ys.set (p - 1) (pl ys q))) w true false w') : w'.there b ((q - 1) * 4) 4 ∧ HpAt HT (w'.setCells b ((q - 1) * 4) (itemL (pl ys p))) gs g m (swp ys p q) (some ⟨b, 0, none⟩) c ∧ ButS gs w (w'.setCells b ((q - 1) * 4) (itemL (pl ys p))) := by
  have ho := hI.st.2
  rw [if_pos rfl] at ho
  have hset := ho.set (i := q - 1) (by omega) (pl ys p)
  have hgb : g ≠ b := fun e => by
    obtain ⟨_, _, _, _, cur, h5, _⟩ := h.own.blk
    have hst := h.st
    subst e
    exact has_types hst h5 (by decide)
  have hb : ButS [b] w _ := hI.gr.trans hset.2
  have hin := h.inA _ rfl
  refine ⟨ho.there (by omega), ⟨by rw [swp_len]; exact h.st.butS hb (by simpa using hgb), by rw [swp_len]; exact hset.1, h.inG, h.inA, fun k hk => Nat.lt_of_lt_of_le (h.lt k hk) hb.size⟩, ⟨hb.os, hb.tape, hb.output, hb.size, fun k hk hn => hb.other k hk (fun e => hn (by have e2 : k = b := (by simpa using e); rw [e2]; exact hin))⟩⟩
set_option maxRecDepth 100000 in
set_option maxHeartbeats 1000000 in
theorem swap_any (h : HpAt HT w gs g m ys A c) {p q : Nat} (h1 : 1 ≤ p) (h2 : p ≤ ys.length) (h3 : 1 ≤ q) (h4 : q ≤ ys.length) (hn : ys.length ≤ 8192) (z1 z2 : Int) (hz1 : z1 = p) (hz2 : z2 = q) :
    Calls Tryz.prog 136 #[.pointer (some ⟨g, 0, none⟩), .int .i64 z1, .int .i64 z2] w fun e w' => e = .returned (.tuple #[]) ∧ HpAt HT w' gs g m (swp ys p q) A c ∧ ButS gs w w' := by
  obtain ⟨b, rfl⟩ := h.ablk (by omega)
  have HF := Lib.hid (fun w' => h.swapped (w' := w') (p := p) h3 h4)
  have HS := Lib.hid h.st
  have HO := Lib.hid h.own
  clear h
  go_enter Tryz.func136, Tryz.ntmps136
  refine hsw0_any (g := g) (b := b) (c := c) (n := ys.length) (k1 := p - 1) (k2 := q - 1) (m := m) (z1 := z1) (z2 := z2) (x := pl ys p) (y := pl ys q) (ys := ys) ⟨rfl, rfl, rfl, rfl, HS.out, HO.out, by omega, by omega, by omega, by omega, by omega, rfl, rfl⟩ (by kernel_rfl) ?_
  intro w9 h9
  have H9 := Lib.hid (HF.out w9 h9)
  clear h9
  simp only [putAll, Act.put, List.setIfInBounds_toArray, List.set_cons_succ, List.set_cons_zero, List.drop_succ_cons, List.drop_zero]
  go_wp2_with (refine store_item rfl _ _ rfl b ((q - 1) * 4) (pl ys p) (by simp [go_sem]) (by simp [go_sem]) H9.out.1 ?_)
  exact Great.bodyPost_end0 rfl rfl ⟨rfl, H9.out.2⟩
structure Mv (I : List It → Nat → Prop) (w0 : World) (gs : List Nat) (g c : Nat) (m : Int) (A : Option Addr) (ys zs : List It) (p : Nat) (w : World) : Prop where
  at_ : HpAt HT w gs g m zs A c
  inv : I zs p
  perm : zs.Perm ys
  but : ButS gs w0 w
theorem Mv.len {I : List It → Nat → Prop} {w0 : World} {zs : List It} {p : Nat} (h : Mv I w0 gs g c m A ys zs p w) : zs.length = ys.length := h.perm.length_eq
theorem Mv.below {I : List It → Nat → Prop} {w0 : World} {zs : List It} {p : Nat} (h : Mv I w0 gs g c m A ys zs p w) (hb : Below w.heap.size w w') : Mv I w0 gs g c m A ys zs p w' := ⟨h.at_.below hb, h.inv, h.perm, h.but.trans (below_butS hb gs)⟩
def MvO (w0 : World) (gs : List Nat) (g c : Nat) (m : Int) (A : Option Addr) (ys : List It) (w : World) : Prop := ∃ zs, HpAt HT w gs g m zs A c ∧ HeapOk zs ∧ zs.Perm ys ∧ ButS gs w0 w
set_option maxRecDepth 100000 in
set_option maxHeartbeats 1000000 in
theorem rise_any (h : HpAt HT w gs g m ys A c) {p0 : Nat} (hi : UpI ys p0) (hn : ys.length ≤ 8192) (z : Int) (hz : z = p0) :
    Calls Tryz.prog 105 #[.pointer (some ⟨g, 0, none⟩), .int .i64 z] w fun e w' => e = .returned (.tuple #[]) ∧ MvO w gs g c m A ys w' := by
  have HS : Hid (Mv UpI w gs g c m A ys ys p0 w) := ⟨h, hi, List.Perm.refl _, ButS.refl _ _⟩
  clear h hi
  subst hz
  go_enter Tryz.func105, Tryz.ntmps105
  go_wp2_with fail
  go_loopw [1] (fun i wr => ∃ (p : Nat) (zs : List It), i = .int .i64 p ∧ Hid (Mv UpI w gs g c m A ys zs p wr)) (fun i _ => (intOf i).toNat)
  case atStart => exact ⟨p0, ys, rfl, HS⟩
  case round =>
    clear HS
    obtain ⟨p, zs, rfl, HM⟩ := hrel
    have hl : zs.length ≤ 8192 := by rw [HM.out.len]; exact hn
    have hhi := HM.out.inv.hi
    by_cases h2 : 2 ≤ p
    · have HA := Lib.hid (ahead_any HM.out.at_ (p := p) (q := p / 2) (by omega) hhi (by omega) (by omega) (by omega) (p : Int) ((p : Int) / 2) rfl (by omega))
      cases hb : lt4 (pl zs p) (pl zs (p / 2)) with
      | false =>
        rw [hb] at HA
        have HE : Hid (HeapOk zs) := upI_end HM.out.inv (.inr hb)
        clear hb
        go_wp2_with fail
        refine (HA.out).mono ?_
        rintro e w1 ⟨rfl, h1⟩
        have HM2 := Lib.hid (HM.out.below h1)
        clear h1
        go_wp2_with fail
        exact Great.bodyPost_end0 rfl rfl ⟨rfl, zs, HM2.out.at_, HE.out, HM2.out.perm, HM2.out.but⟩
      | true =>
        rw [hb] at HA
        have HU := Lib.hid (upI_step HM.out.inv h2 hb)
        clear hb
        go_wp2_with fail
        refine (HA.out).mono ?_
        rintro e w1 ⟨rfl, h1⟩
        have HM2 := Lib.hid (HM.out.below h1)
        clear h1
        have HC := Lib.hid (swap_any HM2.out.at_ (p := p) (q := p / 2) (by omega) hhi (by omega) (by omega) (by omega) (p : Int) ((p : Int) / 2) rfl (by omega))
        have HP : Hid ((swp zs p (p / 2)).Perm ys) := (swp_perm (by omega) hhi (by omega) (by omega)).trans HM.out.perm
        go_wp2_with fail
        refine (HC.out).mono ?_
        rintro e w2 ⟨rfl, h1, h2b⟩
        have HM3 : Hid (Mv UpI w gs g c m A ys (swp zs p (p / 2)) (p / 2) w2) := ⟨h1, HU.out, HP.out, HM2.out.but.trans h2b⟩
        clear h1 h2b
        go_wp2_with fail
        go_roundw
        case rel => exact ⟨p / 2, swp zs p (p / 2), by rw [show ((p : Int) / 2) = ((p / 2 : Nat) : Int) by omega], HM3⟩
        case measure => simp [intOf]; omega
    · have hp : p = 1 := by have := HM.out.inv.lo; omega
      have HE : Hid (HeapOk zs) := upI_end HM.out.inv (.inl hp)
      subst hp
      go_wp2_with fail
      exact Great.bodyPost_end0 rfl rfl ⟨rfl, zs, HM.out.at_, HE.out, HM.out.perm, HM.out.but⟩
set_option maxRecDepth 100000 in
set_option maxHeartbeats 1000000 in
theorem sink_any (h : HpAt HT w gs g m ys A c) (hi : DnI ys 1) (hn : ys.length ≤ 8192) :
    Calls Tryz.prog 139 #[.pointer (some ⟨g, 0, none⟩), .int .i64 1] w fun e w' => e = .returned (.tuple #[]) ∧ MvO w gs g c m A ys w' := by
  have HK := Lib.hid (kid_any h (p := 1) (Nat.le_refl _) (by omega) hn 1 rfl)
  have HS : Hid (∀ w', Below w.heap.size w w' → Mv DnI w gs g c m A ys ys 1 w') := fun w' hb => ⟨h.below hb, hi, List.Perm.refl _, below_butS hb gs⟩
  clear h hi
  go_enter Tryz.func139, Tryz.ntmps139
  go_wp2_with fail
  refine (HK.out).mono ?_
  rintro e w1 ⟨rfl, h1⟩
  have HM0 := Lib.hid (HS.out w1 h1)
  clear h1 HK HS
  go_wp2_with fail
  go_loopw [1, 4] (fun i k wr => ∃ (p q : Nat) (zs : List It), i = .int .i64 p ∧ k = .int .i64 q ∧ p ≤ 8192 ∧ Hid (q = kid zs p) ∧ Hid (Mv DnI w gs g c m A ys zs p wr)) (fun i _ _ => 8193 - (intOf i).toNat)
  case atStart => exact ⟨1, kid ys 1, ys, rfl, rfl, by omega, rfl, HM0⟩
  case round =>
    clear HM0
    obtain ⟨p, q, zs, rfl, rfl, hp, HQ, HM⟩ := hrel
    have hl : zs.length ≤ 8192 := by rw [HM.out.len]; exact hn
    have hlo := HM.out.inv.lo
    by_cases h0 : q = 0
    · have HE : Hid (HeapOk zs) := dnI_end HM.out.inv (.inl (by rw [← HQ.out]; exact h0))
      subst h0
      go_wp2_with fail
      exact Great.bodyPost_end0 rfl rfl ⟨rfl, zs, HM.out.at_, HE.out, HM.out.perm, HM.out.but⟩
    · have hq : 2 ≤ q ∧ q ≤ zs.length ∧ q / 2 = p ∧ p < q := by
        rcases kid_cases zs p hlo with ⟨k1, _⟩ | ⟨k1, k2, k3, k4, _⟩
        · exact absurd (HQ.out.trans k1) h0
        · rw [HQ.out]; exact ⟨k1, k2, k3, k4⟩
      obtain ⟨q1, q2, q3, q4⟩ := hq
      have HQ3 := Lib.hid q3
      clear q3 h0
      have HA := Lib.hid (ahead_any HM.out.at_ (p := q) (q := p) (by omega) q2 hlo (by omega) hl (q : Int) (p : Int) rfl rfl)
      cases hb : lt4 (pl zs q) (pl zs p) with
      | false =>
        rw [hb] at HA
        have HE : Hid (HeapOk zs) := dnI_end HM.out.inv (.inr (by rw [← HQ.out]; exact hb))
        clear hb
        go_wp2_with fail
        refine (HA.out).mono ?_
        rintro e w1 ⟨rfl, h1⟩
        have HM2 := Lib.hid (HM.out.below h1)
        clear h1
        go_wp2_with fail
        exact Great.bodyPost_end0 rfl rfl ⟨rfl, zs, HM2.out.at_, HE.out, HM2.out.perm, HM2.out.but⟩
      | true =>
        rw [hb] at HA
        have HU : Hid (DnI (swp zs q p) q) := by
          have := dnI_step HM.out.inv (by rw [← HQ.out]; omega) (by rw [← HQ.out]; exact hb)
          rw [← HQ.out] at this
          exact this
        clear hb
        go_wp2_with fail
        refine (HA.out).mono ?_
        rintro e w1 ⟨rfl, h1⟩
        have HM2 := Lib.hid (HM.out.below h1)
        clear h1
        have HC := Lib.hid (swap_any HM2.out.at_ (p := q) (q := p) (by omega) q2 hlo (by omega) hl (q : Int) (p : Int) rfl rfl)
        have HP : Hid ((swp zs q p).Perm ys) := (swp_perm (by omega) q2 hlo (by omega)).trans HM.out.perm
        have hl2 : (swp zs q p).length ≤ 8192 := by rw [swp_len]; exact hl
        generalize swp zs q p = us at HC HP HU hl2
        go_wp2_with fail
        refine (HC.out).mono ?_
        rintro e w2 ⟨rfl, h1, h2b⟩
        have HM3 : Hid (Mv DnI w gs g c m A ys us q w2) := ⟨h1, HU.out, HP.out, HM2.out.but.trans h2b⟩
        have HK := Lib.hid (kid_any h1 (p := q) (by omega) (by omega) hl2 q rfl)
        clear h1 h2b HM2 HM HC HA
        go_wp2_with fail
        refine (HK.out).mono ?_
        rintro e w3 ⟨rfl, h3⟩
        have HM4 := Lib.hid (HM3.out.below h3)
        clear h3
        go_wp2_with fail
        go_roundw
        case rel => exact ⟨q, kid us q, us, rfl, rfl, by omega, rfl, HM4⟩
        case measure => simp [intOf]; omega
end
end Go.Proofs.YtbpaepkcchpmbaaGreat

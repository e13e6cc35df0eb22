/-
  swap's drawn region: the facts of its head, in which the first item is stored (written by gen/hpcmp.py).
-/
import Derived.Test.YtmhmekmacdkdgaaHpMem
namespace Go.Proofs.Ytmhmekmacdkdgaa
open Go.RowKit

def hsw0D : List (Option Tmp) := [some 6, some 7, some 8, some 9, some 10, some 11, some 12, some 13, some 14, some 15, some 16, some 17, some 18, some 19, some 20, some 21, some 22, some 23, some 24, some 25, some 26, some 27, some 28, some 29, some 30, some 31, some 32, some 33, some 34, none, some 35, none]
def hsw0F (g b n c k1 k2 : Nat) (_m z1 z2 : Int) (x y : It) (_ys : List It) : List Fact := [isV (.pointer (some ⟨g, 0, none⟩)), isV (.pointer (some ⟨g, 0, none⟩)), isV (.pointer (some ⟨g, 1, none⟩)), isV (.slice (some ⟨b, 0, none⟩) n c), isV (.int .i64 z1), isV (.int .i64 k1), isV (.pointer (some ⟨g, 0, none⟩)), isV (.pointer (some ⟨g, 0, none⟩)), isV (.pointer (some ⟨g, 1, none⟩)), isV (.slice (some ⟨b, 0, none⟩) n c), isV (.int .i64 z2), isV (.int .i64 k2), isV (.pointer (some ⟨g, 0, none⟩)), isV (.pointer (some ⟨g, 0, none⟩)), isV (.pointer (some ⟨g, 1, none⟩)), isV (.slice (some ⟨b, 0, none⟩) n c), isV (.int .i64 z2), isV (.int .i64 k2), isV (.pointer (some ⟨b, k2 * 4, none⟩)), isV (.agg #[.int .i64 y.s, .int .i64 y.t, .int .i64 y.q, .int .i64 y.v]), isV (.pointer (some ⟨g, 0, none⟩)), isV (.pointer (some ⟨g, 0, none⟩)), isV (.pointer (some ⟨g, 1, none⟩)), isV (.slice (some ⟨b, 0, none⟩) n c), isV (.int .i64 z1), isV (.int .i64 k1), isV (.pointer (some ⟨b, k1 * 4, none⟩)), isV (.agg #[.int .i64 x.s, .int .i64 x.t, .int .i64 x.q, .int .i64 x.v]), isV (.pointer (some ⟨b, k1 * 4, none⟩)), isV (undef), isV (.pointer (some ⟨b, k2 * 4, none⟩))]
theorem hsw0F_mono (g b n c k1 k2 : Nat) (m z1 z2 : Int) (x y : It) (ys : List It) : ∀ φ ∈ hsw0F g b n c k1 k2 m z1 z2 x y ys, Mono φ := by
  unfold hsw0F
  repeat (first | exact monos_nil | (refine monos_cons (mono_isV _) ?_))
structure hsw0S (g b n c k1 k2 : Nat) (m z1 z2 : Int) (x y : It) (ys : List It) (a0 : Act) (w0 : World) : Prop where
  size : a0.tmps.size = 36
  v0 : a0.tmps.getD 0 undef = .pointer (some ⟨g, 0, none⟩)
  v1 : a0.tmps.getD 1 undef = .int .i64 z1
  v2 : a0.tmps.getD 2 undef = .int .i64 z2
  st : Has w0 g 54 (hpC m (some ⟨b, 0, none⟩) n c)
  own : OwnIt w0 0 (.slice (some ⟨b, 0, none⟩) n c) ys
  lk1 : k1 < n
  lk2 : k2 < n
  hn : n ≤ 17592186044416
  ek1 : z1 - 1 = k1
  ek2 : z2 - 1 = k2
  ik1 : nthI ys k1 = x
  ik2 : nthI ys k2 = y
section
variable {g b n c k1 k2 : Nat} {m z1 z2 : Int} {x y : It} {ys : List It} {a0 : Act} {w0 : World} (S : hsw0S g b n c k1 k2 m z1 z2 x y ys a0 w0)
include S
theorem hsw0_ne : g ≠ b := fun e => by
  obtain ⟨_, _, _, _, cur, h5, _⟩ := S.own.blk
  subst e
  exact has_types S.st h5 (by decide)
omit S in
theorem hsw0F_monoS : ∀ φ ∈ hsw0F g b n c k1 k2 m z1 z2 x y ys, MonoS [b] φ := by
  unfold hsw0F
  repeat (first | exact allS_nil _ | (refine allS_cons (isV_monoS _ _) ?_))
set_option maxRecDepth 100000 in
set_option maxHeartbeats 8000000 in
theorem hsw0_ok : AllOps (fun j o => ∀ (a : Act) (w : World) (b1 b2 : Bool), (j = 29 → b1 = false ∧ b2 = false) → (j = 1000 → b1 = true ∧ b2 = false) → (j ∈ ([19, 27] : List Nat) → b1 = false) → MI [b] (RowI 54 g b n c m ys (ys.set k1 y)) w0 b1 b2 w → FrD (hsw0D.take 31) a0 a → needs hsw0D (hsw0F g b n c k1 k2 m z1 z2 x y ys) a w o.after.toList → AskM Try.prog hsw0D (factAt (hsw0F g b n c k1 k2 m z1 z2 x y ys) j) (ButS [b]) (ButS [b]) (MI [b] (RowI 54 g b n c m ys (ys.set k1 y)) w0) 29 1000 j o a w) 0 ((opsOf 0 Try.f25).take 31) := by
  simp only [opsOf, Try.f25, opsAt, Option.bind, Option.getD, if_true, List.take_succ_cons, List.take_zero]
  refine ⟨?_, ?_⟩
  · intro a w b1 b2 h1 h2 he hI hF hd
    refine askM_d (by decide) (by decide) ?_
    exact step_move (guard_none rfl) rfl _ rfl ((hF.other 0 rfl).trans S.v0)
  refine ⟨?_, ?_⟩
  · intro a w b1 b2 h1 h2 he hI hF hd
    refine askM_d (by decide) (by decide) ?_
    have h6 : a.tmps.getD 6 undef = .pointer (some ⟨g, 0, none⟩) := hd.1 rfl
    exact rf_nilck (guard_none rfl) rfl _ rfl _ h6 rfl
  refine ⟨?_, ?_⟩
  · intro a w b1 b2 h1 h2 he hI hF hd
    refine askM_d (by decide) (by decide) ?_
    have h7 : a.tmps.getD 7 undef = .pointer (some ⟨g, 0, none⟩) := hd.1 rfl
    exact rf_faddr (guard_none rfl) rfl _ _ _ rfl _ _ 1 _ h7 (by omega) (fun _ _ => by kernel_rfl) rfl
  refine ⟨?_, ?_⟩
  · intro a w b1 b2 h1 h2 he hI hF hd
    refine askM_d (by decide) (by decide) ?_
    have h8 : a.tmps.getD 8 undef = .pointer (some ⟨g, 1, none⟩) := hd.1 rfl
    exact rf_load1 (guard_none rfl) rfl _ _ rfl _ _ h8 (run_ldIt ((Has.cell hI.st.1 1).trans rfl)) rfl
  refine ⟨?_, ?_⟩
  · intro a w b1 b2 h1 h2 he hI hF hd
    refine askM_d (by decide) (by decide) ?_
    exact step_move (guard_none rfl) rfl _ rfl ((hF.other 1 rfl).trans S.v1)
  refine ⟨?_, ?_⟩
  · intro a w b1 b2 h1 h2 he hI hF hd
    refine askM_d (by decide) (by decide) ?_
    have h10 : a.tmps.getD 10 undef = .int .i64 z1 := hd.1 rfl
    exact rf_subr (guard_none rfl) rfl _ _ rfl z1 1 k1 h10 rfl S.ek1 (by have := S.lk1; have := S.hn; omega) (by have := S.lk1; have := S.hn; omega) rfl
  refine ⟨?_, ?_⟩
  · intro a w b1 b2 h1 h2 he hI hF hd
    refine askM_d (by decide) (by decide) ?_
    exact step_move (guard_none rfl) rfl _ rfl ((hF.other 0 rfl).trans S.v0)
  refine ⟨?_, ?_⟩
  · intro a w b1 b2 h1 h2 he hI hF hd
    refine askM_d (by decide) (by decide) ?_
    have h12 : a.tmps.getD 12 undef = .pointer (some ⟨g, 0, none⟩) := hd.1 rfl
    exact rf_nilck (guard_none rfl) rfl _ rfl _ h12 rfl
  refine ⟨?_, ?_⟩
  · intro a w b1 b2 h1 h2 he hI hF hd
    refine askM_d (by decide) (by decide) ?_
    have h13 : a.tmps.getD 13 undef = .pointer (some ⟨g, 0, none⟩) := hd.1 rfl
    exact rf_faddr (guard_none rfl) rfl _ _ _ rfl _ _ 1 _ h13 (by omega) (fun _ _ => by kernel_rfl) rfl
  refine ⟨?_, ?_⟩
  · intro a w b1 b2 h1 h2 he hI hF hd
    refine askM_d (by decide) (by decide) ?_
    have h14 : a.tmps.getD 14 undef = .pointer (some ⟨g, 1, none⟩) := hd.1 rfl
    exact rf_load1 (guard_none rfl) rfl _ _ rfl _ _ h14 (run_ldIt ((Has.cell hI.st.1 1).trans rfl)) rfl
  refine ⟨?_, ?_⟩
  · intro a w b1 b2 h1 h2 he hI hF hd
    refine askM_d (by decide) (by decide) ?_
    exact step_move (guard_none rfl) rfl _ rfl ((hF.other 2 rfl).trans S.v2)
  refine ⟨?_, ?_⟩
  · intro a w b1 b2 h1 h2 he hI hF hd
    refine askM_d (by decide) (by decide) ?_
    have h16 : a.tmps.getD 16 undef = .int .i64 z2 := hd.1 rfl
    exact rf_subr (guard_none rfl) rfl _ _ rfl z2 1 k2 h16 rfl S.ek2 (by have := S.lk2; have := S.hn; omega) (by have := S.lk2; have := S.hn; omega) rfl
  refine ⟨?_, ?_⟩
  · intro a w b1 b2 h1 h2 he hI hF hd
    refine askM_d (by decide) (by decide) ?_
    exact step_move (guard_none rfl) rfl _ rfl ((hF.other 0 rfl).trans S.v0)
  refine ⟨?_, ?_⟩
  · intro a w b1 b2 h1 h2 he hI hF hd
    refine askM_d (by decide) (by decide) ?_
    have h18 : a.tmps.getD 18 undef = .pointer (some ⟨g, 0, none⟩) := hd.1 rfl
    exact rf_nilck (guard_none rfl) rfl _ rfl _ h18 rfl
  refine ⟨?_, ?_⟩
  · intro a w b1 b2 h1 h2 he hI hF hd
    refine askM_d (by decide) (by decide) ?_
    have h19 : a.tmps.getD 19 undef = .pointer (some ⟨g, 0, none⟩) := hd.1 rfl
    exact rf_faddr (guard_none rfl) rfl _ _ _ rfl _ _ 1 _ h19 (by omega) (fun _ _ => by kernel_rfl) rfl
  refine ⟨?_, ?_⟩
  · intro a w b1 b2 h1 h2 he hI hF hd
    refine askM_d (by decide) (by decide) ?_
    have h20 : a.tmps.getD 20 undef = .pointer (some ⟨g, 1, none⟩) := hd.1 rfl
    exact rf_load1 (guard_none rfl) rfl _ _ rfl _ _ h20 (run_ldIt ((Has.cell hI.st.1 1).trans rfl)) rfl
  refine ⟨?_, ?_⟩
  · intro a w b1 b2 h1 h2 he hI hF hd
    refine askM_d (by decide) (by decide) ?_
    exact step_move (guard_none rfl) rfl _ rfl ((hF.other 2 rfl).trans S.v2)
  refine ⟨?_, ?_⟩
  · intro a w b1 b2 h1 h2 he hI hF hd
    refine askM_d (by decide) (by decide) ?_
    have h22 : a.tmps.getD 22 undef = .int .i64 z2 := hd.1 rfl
    exact rf_subr (guard_none rfl) rfl _ _ rfl z2 1 k2 h22 rfl S.ek2 (by have := S.lk2; have := S.hn; omega) (by have := S.lk2; have := S.hn; omega) rfl
  refine ⟨?_, ?_⟩
  · intro a w b1 b2 h1 h2 he hI hF hd
    refine askM_d (by decide) (by decide) ?_
    have h21 : a.tmps.getD 21 undef = .slice (some ⟨b, 0, none⟩) n c := hd.1 rfl
    have h23 : a.tmps.getD 23 undef = .int .i64 k2 := hd.2.1 rfl
    exact rf_indexIt0 (guard_none rfl) rfl _ _ rfl b n c k2 _ h21 h23 rfl S.lk2 rfl
  refine ⟨?_, ?_⟩
  · intro a w b1 b2 h1 h2 he hI hF hd
    refine askM_d (by decide) (by decide) ?_
    have h24 : a.tmps.getD 24 undef = .pointer (some ⟨b, k2 * 4, none⟩) := hd.1 rfl
    exact rf_loadIt (guard_none rfl) rfl _ rfl _ _ h24 y (by obtain rfl := he (by decide); have := (hI.st.2).item S.lk2; rw [if_neg (by simp), S.ik2] at this; exact this) rfl
  refine ⟨?_, ?_⟩
  · intro a w b1 b2 h1 h2 he hI hF hd
    refine askM_d (by decide) (by decide) ?_
    exact step_move (guard_none rfl) rfl _ rfl ((hF.other 0 rfl).trans S.v0)
  refine ⟨?_, ?_⟩
  · intro a w b1 b2 h1 h2 he hI hF hd
    refine askM_d (by decide) (by decide) ?_
    have h26 : a.tmps.getD 26 undef = .pointer (some ⟨g, 0, none⟩) := hd.1 rfl
    exact rf_nilck (guard_none rfl) rfl _ rfl _ h26 rfl
  refine ⟨?_, ?_⟩
  · intro a w b1 b2 h1 h2 he hI hF hd
    refine askM_d (by decide) (by decide) ?_
    have h27 : a.tmps.getD 27 undef = .pointer (some ⟨g, 0, none⟩) := hd.1 rfl
    exact rf_faddr (guard_none rfl) rfl _ _ _ rfl _ _ 1 _ h27 (by omega) (fun _ _ => by kernel_rfl) rfl
  refine ⟨?_, ?_⟩
  · intro a w b1 b2 h1 h2 he hI hF hd
    refine askM_d (by decide) (by decide) ?_
    have h28 : a.tmps.getD 28 undef = .pointer (some ⟨g, 1, none⟩) := hd.1 rfl
    exact rf_load1 (guard_none rfl) rfl _ _ rfl _ _ h28 (run_ldIt ((Has.cell hI.st.1 1).trans rfl)) rfl
  refine ⟨?_, ?_⟩
  · intro a w b1 b2 h1 h2 he hI hF hd
    refine askM_d (by decide) (by decide) ?_
    exact step_move (guard_none rfl) rfl _ rfl ((hF.other 1 rfl).trans S.v1)
  refine ⟨?_, ?_⟩
  · intro a w b1 b2 h1 h2 he hI hF hd
    refine askM_d (by decide) (by decide) ?_
    have h30 : a.tmps.getD 30 undef = .int .i64 z1 := hd.1 rfl
    exact rf_subr (guard_none rfl) rfl _ _ rfl z1 1 k1 h30 rfl S.ek1 (by have := S.lk1; have := S.hn; omega) (by have := S.lk1; have := S.hn; omega) rfl
  refine ⟨?_, ?_⟩
  · intro a w b1 b2 h1 h2 he hI hF hd
    refine askM_d (by decide) (by decide) ?_
    have h29 : a.tmps.getD 29 undef = .slice (some ⟨b, 0, none⟩) n c := hd.1 rfl
    have h31 : a.tmps.getD 31 undef = .int .i64 k1 := hd.2.1 rfl
    exact rf_indexIt0 (guard_none rfl) rfl _ _ rfl b n c k1 _ h29 h31 rfl S.lk1 rfl
  refine ⟨?_, ?_⟩
  · intro a w b1 b2 h1 h2 he hI hF hd
    refine askM_d (by decide) (by decide) ?_
    have h32 : a.tmps.getD 32 undef = .pointer (some ⟨b, k1 * 4, none⟩) := hd.1 rfl
    exact rf_loadIt (guard_none rfl) rfl _ rfl _ _ h32 x (by obtain rfl := he (by decide); have := (hI.st.2).item S.lk1; rw [if_neg (by simp), S.ik1] at this; exact this) rfl
  refine ⟨?_, ?_⟩
  · intro a w b1 b2 h1 h2 he hI hF hd
    refine askM_d (by decide) (by decide) ?_
    have h9 : a.tmps.getD 9 undef = .slice (some ⟨b, 0, none⟩) n c := hd.1 rfl
    have h11 : a.tmps.getD 11 undef = .int .i64 k1 := hd.2.1 rfl
    exact rf_indexIt0 (guard_none rfl) rfl _ _ rfl b n c k1 _ h9 h11 rfl S.lk1 rfl
  refine ⟨?_, ?_⟩
  · intro a w b1 b2 h1 h2 he hI hF hd
    refine askM_1 rfl ?_
    have h34 : a.tmps.getD 34 undef = .pointer (some ⟨b, k1 * 4, none⟩) := hd.1 rfl
    have h25 : a.tmps.getD 25 undef = .agg #[.int .i64 y.s, .int .i64 y.t, .int .i64 y.q, .int .i64 y.v] := hd.2.1 rfl
    obtain ⟨rfl, rfl⟩ := h1 rfl
    have ho := hI.st.2
    rw [if_neg (by simp)] at ho
    have hset := ho.set S.lk1 y
    exact stepL_item rfl rfl _ _ rfl b (k1 * 4) y h34 h25 (ho.there S.lk1) hI hset.2 ⟨hI.st.1.butS hset.2 (by simpa using hsw0_ne S), by rw [if_pos rfl]; exact hset.1⟩ rfl
  refine ⟨?_, ?_⟩
  · intro a w b1 b2 h1 h2 he hI hF hd
    refine askM_d (by decide) (by decide) ?_
    have h15 : a.tmps.getD 15 undef = .slice (some ⟨b, 0, none⟩) n c := hd.1 rfl
    have h17 : a.tmps.getD 17 undef = .int .i64 k2 := hd.2.1 rfl
    exact rf_indexIt0 (guard_none rfl) rfl _ _ rfl b n c k2 _ h15 h17 rfl S.lk2 rfl
  trivial
set_option maxRecDepth 100000 in
theorem hsw0_any {Q : Exit → Act → World → Prop} {l : List Oper} (hl : opsOf 0 Try.f25 = l) (hend : ∀ w : World, MI [b] (RowI 54 g b n c m ys (ys.set k1 y)) w0 true false w → wpList Try.prog l.toArray Q (l.drop 31) (putAll a0 [(6, .pointer (some ⟨g, 0, none⟩)), (7, .pointer (some ⟨g, 0, none⟩)), (8, .pointer (some ⟨g, 1, none⟩)), (9, .slice (some ⟨b, 0, none⟩) n c), (10, .int .i64 z1), (11, .int .i64 k1), (12, .pointer (some ⟨g, 0, none⟩)), (13, .pointer (some ⟨g, 0, none⟩)), (14, .pointer (some ⟨g, 1, none⟩)), (15, .slice (some ⟨b, 0, none⟩) n c), (16, .int .i64 z2), (17, .int .i64 k2), (18, .pointer (some ⟨g, 0, none⟩)), (19, .pointer (some ⟨g, 0, none⟩)), (20, .pointer (some ⟨g, 1, none⟩)), (21, .slice (some ⟨b, 0, none⟩) n c), (22, .int .i64 z2), (23, .int .i64 k2), (24, .pointer (some ⟨b, k2 * 4, none⟩)), (25, .agg #[.int .i64 y.s, .int .i64 y.t, .int .i64 y.q, .int .i64 y.v]), (26, .pointer (some ⟨g, 0, none⟩)), (27, .pointer (some ⟨g, 0, none⟩)), (28, .pointer (some ⟨g, 1, none⟩)), (29, .slice (some ⟨b, 0, none⟩) n c), (30, .int .i64 z1), (31, .int .i64 k1), (32, .pointer (some ⟨b, k1 * 4, none⟩)), (33, .agg #[.int .i64 x.s, .int .i64 x.t, .int .i64 x.q, .int .i64 x.v]), (34, .pointer (some ⟨b, k1 * 4, none⟩)), (35, .pointer (some ⟨b, k2 * 4, none⟩))]) w) :
    (Code.region 0 l.toArray true).wp Try.prog Q a0 w0 := by
  subst hl
  refine region_twoE [b] (RowI 54 g b n c m ys (ys.set k1 y)) 29 1000 (hsw0F _ _ _ _ _ _ _ _ _ _ _ _) hsw0D 31 36 S.size rfl (by kernel_rfl) (by kernel_rfl) (by kernel_rfl) [19, 27] (by kernel_rfl) (by omega) (by omega) (by kernel_rfl) (fun _ _ _ _ h hb => RowI.below h hb) (⟨S.st, by rw [if_neg (by simp)]; exact S.own⟩) (hsw0F_mono _ _ _ _ _ _ _ _ _ _ _ _) (hsw0F_monoS) (hsw0_ok S) fun a w hI hF h => ?_
  have hv : valsAre a [(6, .pointer (some ⟨g, 0, none⟩)), (7, .pointer (some ⟨g, 0, none⟩)), (8, .pointer (some ⟨g, 1, none⟩)), (9, .slice (some ⟨b, 0, none⟩) n c), (10, .int .i64 z1), (11, .int .i64 k1), (12, .pointer (some ⟨g, 0, none⟩)), (13, .pointer (some ⟨g, 0, none⟩)), (14, .pointer (some ⟨g, 1, none⟩)), (15, .slice (some ⟨b, 0, none⟩) n c), (16, .int .i64 z2), (17, .int .i64 k2), (18, .pointer (some ⟨g, 0, none⟩)), (19, .pointer (some ⟨g, 0, none⟩)), (20, .pointer (some ⟨g, 1, none⟩)), (21, .slice (some ⟨b, 0, none⟩) n c), (22, .int .i64 z2), (23, .int .i64 k2), (24, .pointer (some ⟨b, k2 * 4, none⟩)), (25, .agg #[.int .i64 y.s, .int .i64 y.t, .int .i64 y.q, .int .i64 y.v]), (26, .pointer (some ⟨g, 0, none⟩)), (27, .pointer (some ⟨g, 0, none⟩)), (28, .pointer (some ⟨g, 1, none⟩)), (29, .slice (some ⟨b, 0, none⟩) n c), (30, .int .i64 z1), (31, .int .i64 k1), (32, .pointer (some ⟨b, k1 * 4, none⟩)), (33, .agg #[.int .i64 x.s, .int .i64 x.t, .int .i64 x.q, .int .i64 x.v]), (34, .pointer (some ⟨b, k1 * 4, none⟩)), (35, .pointer (some ⟨b, k2 * 4, none⟩))] := by
    refine ⟨?_, ?_, ?_, ?_, ?_, ?_, ?_, ?_, ?_, ?_, ?_, ?_, ?_, ?_, ?_, ?_, ?_, ?_, ?_, ?_, ?_, ?_, ?_, ?_, ?_, ?_, ?_, ?_, ?_, ?_, trivial⟩
    · exact h 0 (some 6) (by omega) rfl
    · exact h 1 (some 7) (by omega) rfl
    · exact h 2 (some 8) (by omega) rfl
    · exact h 3 (some 9) (by omega) rfl
    · exact h 4 (some 10) (by omega) rfl
    · exact h 5 (some 11) (by omega) rfl
    · exact h 6 (some 12) (by omega) rfl
    · exact h 7 (some 13) (by omega) rfl
    · exact h 8 (some 14) (by omega) rfl
    · exact h 9 (some 15) (by omega) rfl
    · exact h 10 (some 16) (by omega) rfl
    · exact h 11 (some 17) (by omega) rfl
    · exact h 12 (some 18) (by omega) rfl
    · exact h 13 (some 19) (by omega) rfl
    · exact h 14 (some 20) (by omega) rfl
    · exact h 15 (some 21) (by omega) rfl
    · exact h 16 (some 22) (by omega) rfl
    · exact h 17 (some 23) (by omega) rfl
    · exact h 18 (some 24) (by omega) rfl
    · exact h 19 (some 25) (by omega) rfl
    · exact h 20 (some 26) (by omega) rfl
    · exact h 21 (some 27) (by omega) rfl
    · exact h 22 (some 28) (by omega) rfl
    · exact h 23 (some 29) (by omega) rfl
    · exact h 24 (some 30) (by omega) rfl
    · exact h 25 (some 31) (by omega) rfl
    · exact h 26 (some 32) (by omega) rfl
    · exact h 27 (some 33) (by omega) rfl
    · exact h 28 (some 34) (by omega) rfl
    · exact h 30 (some 35) (by omega) rfl
  rw [frame_is hF _ hv (by rfl) (by rfl)]
  exact hend w hI
end

end Go.Proofs.Ytmhmekmacdkdgaa

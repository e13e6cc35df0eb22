/-
  The drawn region of the reference's Push that calls sorted: the facts of its reading head (written by gen/hpref.py).
-/
import Derived.Test.YtmhmekmacdkdgaaHpSort
import Derived.Test.YtmhmekmacdkdgaaHead2
namespace Go.Proofs.Ytmhmekmacdkdgaa
open Go.RowKit

def rowS (B n : Nat) (xs : List It) : Fact := fun v w => ∃ E d, v = .slice E n d ∧ OwnIt w B (.slice E n d) xs
theorem rowS_mono (B n : Nat) (xs : List It) : Mono (rowS B n xs) := fun _ _ _ hb ⟨E, d, e, h⟩ => ⟨E, d, e, h.below hb⟩
theorem OwnIt.lo2 {w : World} {base m n c : Nat} {A : Option Addr} {ys : List It} (h : OwnIt w base (.slice A n c) ys) (hm : m ≤ base) : OwnIt w m (.slice A n c) ys := by
  rcases h.shape with ⟨rfl, rfl, rfl, rfl⟩ | ⟨b, rfl⟩
  · exact OwnIt.nil _ _
  · exact h.lo (by have := h.blk.2.1; omega)

def hrp11D : List (Option Tmp) := [some 38, some 39, some 40, some 41, some 42, some 43, some 44, some 45, some 46, some 47, some 48, some 49, none]
def hrp11F (g b f k1 nz cz n c B : Nat) (_m : Int) (A : Option Addr) (x : It) (xs : List It) : List Fact := [isV (.pointer (some ⟨g, 0, none⟩)), isV (.pointer (some ⟨g, 0, none⟩)), isV (.pointer (some ⟨g, 0, none⟩)), isV (.pointer (some ⟨g, 1, none⟩)), isV (.slice A n c), isV (.slice (some ⟨b, f, none⟩) nz cz), isV (.int .i64 k1), isV (.pointer (some ⟨b, f + k1 * 4, none⟩)), isV (.agg #[.int .i64 x.s, .int .i64 x.t, .int .i64 x.q, .int .i64 x.v]), rowS B (n + 1) (ins x xs)]
theorem hrp11F_mono (g b f k1 nz cz n c B : Nat) (m : Int) (A : Option Addr) (x : It) (xs : List It) : ∀ φ ∈ hrp11F g b f k1 nz cz n c B m A x xs, Mono φ := by
  unfold hrp11F
  repeat (first | exact monos_nil | (refine monos_cons (mono_isV _) ?_) | (refine monos_cons (rowS_mono _ _ _) ?_))
structure hrp11S (g b f k1 nz cz n c B : Nat) (m : Int) (A : Option Addr) (x : It) (xs : List It) (a0 : Act) (w0 : World) : Prop where
  size : a0.tmps.size = 50
  v0 : a0.tmps.getD 0 undef = .pointer (some ⟨g, 0, none⟩)
  v1 : a0.tmps.getD 1 undef = .slice (some ⟨b, f, none⟩) nz cz
  v6 : a0.tmps.getD 6 undef = .int .i64 k1
  eB : w0.heap.size = B
  st : Has w0 g 47 (hpC m A n c)
  own : OwnIt w0 0 (.slice A n c) xs
  srt : Srd xs
  hn : n ≤ 8192
  ix : w0.rangeAt b (f + k1 * 4) (itemL x)
  lk : k1 < nz
section
variable {g b f k1 nz cz n c B : Nat} {m : Int} {A : Option Addr} {x : It} {xs : List It} {a0 : Act} {w0 : World} (S : hrp11S g b f k1 nz cz n c B m A x xs a0 w0)
include S
set_option maxRecDepth 100000 in
set_option maxHeartbeats 8000000 in
theorem hrp11_ok : AllOps (fun j o => ∀ (a : Act) (w : World), Below w0.heap.size w0 w → FrD (hrp11D.take 10) a0 a → needs hrp11D (hrp11F g b f k1 nz cz n c B m A x xs) a w o.after.toList → StepD Try.prog hrp11D (factAt (hrp11F g b f k1 nz cz n c B m A x xs) j) o a w) 0 ((opsOf 11 Try.f16).take 10) := by
  simp only [opsOf, Try.f16, opsAt, Option.bind, Option.or, Option.getD, reduceCtorEq, if_true, if_false, Nat.reduceEqDiff, List.take_succ_cons, List.take_zero]
  refine ⟨?_, ?_⟩
  · intro _a _w _hB hF _hd
    exact step_move (guard_none rfl) rfl _ rfl ((hF.other 0 rfl).trans S.v0)
  refine ⟨?_, ?_⟩
  · intro _a _w _hB hF _hd
    exact step_move (guard_none rfl) rfl _ rfl ((hF.other 0 rfl).trans S.v0)
  refine ⟨?_, ?_⟩
  · intro a _w _hB _hF hd
    have h39 : a.tmps.getD 39 undef = .pointer (some ⟨g, 0, none⟩) := hd.1 rfl
    exact rf_nilck (guard_none rfl) rfl _ rfl _ h39 rfl
  refine ⟨?_, ?_⟩
  · intro a _w _hB _hF hd
    have h40 : a.tmps.getD 40 undef = .pointer (some ⟨g, 0, none⟩) := hd.1 rfl
    exact rf_faddr (guard_none rfl) rfl _ _ _ rfl _ _ 1 _ h40 (by omega) (fun _ _ => by kernel_rfl) rfl
  refine ⟨?_, ?_⟩
  · intro a _w hB _hF hd
    have h41 : a.tmps.getD 41 undef = .pointer (some ⟨g, 1, none⟩) := hd.1 rfl
    exact rf_load1 (guard_none rfl) rfl _ _ rfl _ _ h41 (run_ldIt ((Has.cell (S.st.below hB S.st.lt) 1).trans rfl)) rfl
  refine ⟨?_, ?_⟩
  · intro _a _w _hB hF _hd
    exact step_move (guard_none rfl) rfl _ rfl ((hF.other 1 rfl).trans S.v1)
  refine ⟨?_, ?_⟩
  · intro _a _w _hB hF _hd
    exact step_move (guard_none rfl) rfl _ rfl ((hF.other 6 rfl).trans S.v6)
  refine ⟨?_, ?_⟩
  · intro a _w _hB _hF hd
    have h43 : a.tmps.getD 43 undef = .slice (some ⟨b, f, none⟩) nz cz := hd.1 rfl
    have h44 : a.tmps.getD 44 undef = .int .i64 k1 := hd.2.1 rfl
    exact rf_indexIt (guard_none rfl) rfl _ _ rfl b f nz cz k1 _ h43 h44 rfl S.lk rfl
  refine ⟨?_, ?_⟩
  · intro a _w hB _hF hd
    have h45 : a.tmps.getD 45 undef = .pointer (some ⟨b, f + k1 * 4, none⟩) := hd.1 rfl
    exact rf_loadIt (guard_none rfl) rfl _ rfl _ _ h45 x (rangeAt_keep S.ix (by simp [itemL]) fun _ hp => hB.cell hp) rfl
  refine ⟨?_, ?_⟩
  · intro a w hB _hF hd
    have h42 : a.tmps.getD 42 undef = .slice A n c := hd.1 rfl
    have h46 : a.tmps.getD 46 undef = .agg #[.int .i64 x.s, .int .i64 x.t, .int .i64 x.q, .int .i64 x.v] := hd.2.1 rfl
    refine step_call (guard_none rfl) rfl _ _ (rf_call_run Try.func31 (by kernel_rfl) (by kernel_rfl) _ _ rfl) ?_
    simp only [List.map_toArray, List.map_cons, List.map_nil, Act.eval, h42, h46]
    exact (sorted_any A n c xs x w (S.own.below hB) S.srt S.hn).mono (by rintro e w1 ⟨E, d, rfl, ho, hb⟩; exact ⟨_, rfl, hb, E, d, rfl, ho.lo2 (by rw [← S.eB]; exact hB.size)⟩)
  trivial
theorem hrp11_any {Q : Exit → Act → World → Prop} {l : List Oper} (hl : opsOf 11 Try.f16 = l) (hend : ∀ (E47 : Option Addr) (d47 : Nat), ∀ w : World, Below w0.heap.size w0 w → OwnIt w B (.slice E47 (n + 1) d47) (ins x xs) → wpList Try.prog l.toArray Q (l.drop 10) (putAll a0 [(38, .pointer (some ⟨g, 0, none⟩)), (39, .pointer (some ⟨g, 0, none⟩)), (40, .pointer (some ⟨g, 0, none⟩)), (41, .pointer (some ⟨g, 1, none⟩)), (42, .slice A n c), (43, .slice (some ⟨b, f, none⟩) nz cz), (44, .int .i64 k1), (45, .pointer (some ⟨b, f + k1 * 4, none⟩)), (46, .agg #[.int .i64 x.s, .int .i64 x.t, .int .i64 x.q, .int .i64 x.v]), (47, .slice E47 (n + 1) d47)]) w) :
    (Code.region 11 l.toArray true).wp Try.prog Q a0 w0 := by
  subst hl
  refine region_head2 (hrp11F g b f k1 nz cz n c B m A x xs) hrp11D 10 50 S.size rfl (by kernel_rfl) (by kernel_rfl) (by kernel_rfl) (hrp11F_mono _ _ _ _ _ _ _ _ _ _ _ _ _) (hrp11_ok S) fun a w hB hF h => ?_
  obtain ⟨E47, d47, h47, p47⟩ : rowS B (n + 1) (ins x xs) (a.tmps.getD 47 undef) w := h 9 (some 47) (by omega) rfl
  have hv : valsAre a [(38, .pointer (some ⟨g, 0, none⟩)), (39, .pointer (some ⟨g, 0, none⟩)), (40, .pointer (some ⟨g, 0, none⟩)), (41, .pointer (some ⟨g, 1, none⟩)), (42, .slice A n c), (43, .slice (some ⟨b, f, none⟩) nz cz), (44, .int .i64 k1), (45, .pointer (some ⟨b, f + k1 * 4, none⟩)), (46, .agg #[.int .i64 x.s, .int .i64 x.t, .int .i64 x.q, .int .i64 x.v]), (47, .slice E47 (n + 1) d47)] := by
    refine ⟨?_, ?_, ?_, ?_, ?_, ?_, ?_, ?_, ?_, ?_, trivial⟩
    · exact h 0 (some 38) (by omega) rfl
    · exact h 1 (some 39) (by omega) rfl
    · exact h 2 (some 40) (by omega) rfl
    · exact h 3 (some 41) (by omega) rfl
    · exact h 4 (some 42) (by omega) rfl
    · exact h 5 (some 43) (by omega) rfl
    · exact h 6 (some 44) (by omega) rfl
    · exact h 7 (some 45) (by omega) rfl
    · exact h 8 (some 46) (by omega) rfl
    · exact h47
  rw [frame_is hF _ hv (by rfl) (by rfl)]
  exact hend E47 d47 w hB p47
end

end Go.Proofs.Ytmhmekmacdkdgaa

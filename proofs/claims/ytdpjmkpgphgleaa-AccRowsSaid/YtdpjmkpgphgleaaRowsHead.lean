/-
  Walk: AccRows: the item of a round and what is known of it, but for the statement's tail.
-/
import Derived.Test.YtdpjmkpgphgleaaPerm
import Derived.Test.YtdpjmkpgphgleaaMask
import Derived.Test.YtdpjmkpgphgleaaTieHead
namespace Go.Proofs.Ytdpjmkpgphgleaa
open Go.RowKit

section
variable {D : List (Option Tmp)} {Φ : Fact} {o : Oper} {a : Act} {w : World}
theorem step_shr8 (hw : Region.wanted o (yieldD D a.tmps) = true) {t : Tmp} (hd : o.dst = some t) (x y : Operand) (ho : o.op = .binOp .shr 3 x y 47) (m : Int) (hx : a.eval x = .int .i64 m) (hy : a.eval y = .int .u64 8)
    (h : Φ (.int .i64 (m / 256)) w) : StepD Try.prog D Φ o a w := by
  refine step_val hw hd _ _ ?_ (Below.refl _ _) h
  unfold execOp
  rw [ho]
  simp only [hx, hy]
  simp [go_sem]
theorem step_and (hw : Region.wanted o (yieldD D a.tmps) = true) {t : Tmp} (hd : o.dst = some t) (x y : Operand) (ho : o.op = .binOp .and 3 x y 3) (m q r : Int) (hx : a.eval x = .int .i64 m) (hy : a.eval y = .int .i64 q) (hr : bits .and .i64 m q = r)
    (h : Φ (.int .i64 r) w) : StepD Try.prog D Φ o a w := by
  refine step_val hw hd _ _ ?_ (Below.refl _ _) h
  unfold execOp
  rw [ho]
  simp only [hx, hy]
  simp [go_sem, hr]
end


section
variable (b f n c j : Nat) (B : Option Addr) (m d : Nat) (x y z : Int) (Z : Ac) (N : Nat)
def row11F : List Fact := [isV (.slice (some ⟨b, f, none⟩) n c), isV (.int .i64 (j : Int)), isV (.pointer (some ⟨b, f + j, none⟩)), isV (.int .i64 x), isV (.int .i64 (x / 256)), isV (.int .i64 y), isV (.int .i64 (y - 3)), isV (.int .i64 (j : Int)), isV (.int .i64 ((j : Int) + 1)), isV (.slice (some ⟨b, f, none⟩) n c), isV (.int .i64 (j : Int)), isV (.pointer (some ⟨b, f + j, none⟩)), isV (.int .i64 x), isV (.int .i64 z), isV (.int .i64 (z - 100)), isV (itemV ⟨3, y - 3, (j : Int) + 1, z - 100⟩), isV (.slice B m d), joinF Z, joinF Z, accF Z, isV (.int .i64 0), varF N]
def row11D : List (Option Tmp) := [some 49, some 50, some 51, some 52, some 53, some 54, some 55, some 56, some 57, some 58, some 59, some 60, some 61, some 62, some 63, some 64, some 65, some 66, some 48, some 67, some 68, some 13, none, some 14]
theorem row11F_mono : ∀ p ∈ row11F b f n c j B m d x y z Z N, Mono p := by
  unfold row11F
  repeat (first | exact monos_nil | (refine monos_cons (mono_isV _) ?_) | (refine monos_cons (mono_join _) ?_) | (refine monos_cons (mono_acc _) ?_) | (refine monos_cons (mono_var _) ?_))
structure Row11 (Bs : List Int) (a0 : Act) (w0 : World) : Prop where
  size : a0.tmps.size = 171
  v0 : a0.tmps.getD 0 undef = .slice (some ⟨b, f, none⟩) n c
  v12 : a0.tmps.getD 12 undef = .int .i64 (j : Int)
  v2 : a0.tmps.getD 2 undef = .slice B m d
  cx : w0.cell? ⟨b, f + j, none⟩ = some (.int .i64 x)
  jn : j < n
  j20 : j < 20
  ey : bits .and .i64 (x / 256) 7 = y
  y8 : 0 ≤ y ∧ y ≤ 7
  ez : bits .and .i64 x 255 = z
  z8 : 0 ≤ z ∧ z ≤ 255
  bs : Ints w0 B m Bs
  bb : boundsB Bs = true
  eZ : oneAc ⟨3, y - 3, (j : Int) + 1, z - 100⟩ Bs = Z
end
section
variable {b f n c j : Nat} {B : Option Addr} {m d : Nat} {x y z : Int} {Z : Ac} {bs : List Int} {a0 : Act} {w0 : World} (S : Row11 b f n c j B m d x y z Z bs a0 w0)
include S
set_option maxRecDepth 100000 in
set_option maxHeartbeats 4000000 in
theorem row11_ok : AllOps (fun i o => ∀ (a : Act) (w : World), Below w0.heap.size w0 w → FrD (row11D.take 22) a0 a → needs row11D (row11F b f n c j B m d x y z Z w0.heap.size) a w o.after.toList → StepD Try.prog row11D (factAt (row11F b f n c j B m d x y z Z w0.heap.size) i) o a w) 0 ((opsOf 11 Try.f4).take 22) := by
  simp only [opsOf, Try.f4, opsAt, Option.bind, Option.or, Option.getD, reduceCtorEq, if_true, if_false, Nat.reduceEqDiff, List.take_succ_cons, List.take_zero]
  have hj20 := S.j20
  have hy8 := S.y8
  have hz8 := S.z8
  refine ⟨?_, ?_⟩
  · intro a w hB hF hd
    exact step_move (guard_none rfl) rfl _ rfl ((hF.other 0 rfl).trans S.v0)
  refine ⟨?_, ?_⟩
  · intro a w hB hF hd
    exact step_move (guard_none rfl) rfl _ rfl ((hF.other 12 rfl).trans S.v12)
  refine ⟨?_, ?_⟩
  · intro a w hB hF hd
    have h0 : a.tmps.getD 49 undef = .slice (some ⟨b, f, none⟩) n c := hd.1 rfl
    have h1 : a.tmps.getD 50 undef = .int .i64 (j : Int) := hd.2.1 rfl
    exact step_iaddr (guard_none rfl) rfl _ _ rfl b f n c j h0 h1 S.jn rfl
  refine ⟨?_, ?_⟩
  · intro a w hB hF hd
    have h0 : a.tmps.getD 51 undef = .pointer (some ⟨b, f + j, none⟩) := hd.1 rfl
    exact step_loadi (guard_none rfl) rfl _ rfl b (f + j) h0 x ((hB.cell (block_lt_of_cell S.cx)).trans S.cx) rfl
  refine ⟨?_, ?_⟩
  · intro a w hB hF hd
    have h0 : a.tmps.getD 52 undef = .int .i64 x := hd.1 rfl
    exact step_shr8 (guard_none rfl) rfl _ _ rfl x h0 rfl rfl
  refine ⟨?_, ?_⟩
  · intro a w hB hF hd
    have h0 : a.tmps.getD 53 undef = .int .i64 (x / 256) := hd.1 rfl
    exact step_and (guard_none rfl) rfl _ _ rfl (x / 256) 7 y h0 rfl S.ey rfl
  refine ⟨?_, ?_⟩
  · intro a w hB hF hd
    have h0 : a.tmps.getD 54 undef = .int .i64 y := hd.1 rfl
    exact step_sub (guard_none rfl) rfl _ _ rfl _ _ h0 rfl (by omega) rfl
  refine ⟨?_, ?_⟩
  · intro a w hB hF hd
    exact step_move (guard_none rfl) rfl _ rfl ((hF.other 12 rfl).trans S.v12)
  refine ⟨?_, ?_⟩
  · intro a w hB hF hd
    have h0 : a.tmps.getD 56 undef = .int .i64 (j : Int) := hd.1 rfl
    exact step_add (guard_none rfl) rfl _ _ rfl _ _ h0 rfl (by omega) rfl
  refine ⟨?_, ?_⟩
  · intro a w hB hF hd
    exact step_move (guard_none rfl) rfl _ rfl ((hF.other 0 rfl).trans S.v0)
  refine ⟨?_, ?_⟩
  · intro a w hB hF hd
    exact step_move (guard_none rfl) rfl _ rfl ((hF.other 12 rfl).trans S.v12)
  refine ⟨?_, ?_⟩
  · intro a w hB hF hd
    have h0 : a.tmps.getD 58 undef = .slice (some ⟨b, f, none⟩) n c := hd.1 rfl
    have h1 : a.tmps.getD 59 undef = .int .i64 (j : Int) := hd.2.1 rfl
    exact step_iaddr (guard_none rfl) rfl _ _ rfl b f n c j h0 h1 S.jn rfl
  refine ⟨?_, ?_⟩
  · intro a w hB hF hd
    have h0 : a.tmps.getD 60 undef = .pointer (some ⟨b, f + j, none⟩) := hd.1 rfl
    exact step_loadi (guard_none rfl) rfl _ rfl b (f + j) h0 x ((hB.cell (block_lt_of_cell S.cx)).trans S.cx) rfl
  refine ⟨?_, ?_⟩
  · intro a w hB hF hd
    have h0 : a.tmps.getD 61 undef = .int .i64 x := hd.1 rfl
    exact step_and (guard_none rfl) rfl _ _ rfl x 255 z h0 rfl S.ez rfl
  refine ⟨?_, ?_⟩
  · intro a w hB hF hd
    have h0 : a.tmps.getD 62 undef = .int .i64 z := hd.1 rfl
    exact step_sub (guard_none rfl) rfl _ _ rfl _ _ h0 rfl (by omega) rfl
  refine ⟨?_, ?_⟩
  · intro a w hB hF hd
    have h0 : a.tmps.getD 55 undef = .int .i64 (y - 3) := hd.1 rfl
    have h1 : a.tmps.getD 57 undef = .int .i64 ((j : Int) + 1) := hd.2.1 rfl
    have h2 : a.tmps.getD 63 undef = .int .i64 (z - 100) := hd.2.2.1 rfl
    refine step_call (guard_none rfl) rfl _ _ (call_run Try.func30 (by kernel_rfl) (by kernel_rfl) _ _ rfl) ?_
    simp only [List.map_toArray, List.map_cons, List.map_nil, Act.eval, h0, h1, h2]
    refine (mkItem_any _ _ _ _ w).mono ?_
    rintro e w1 ⟨rfl, hb⟩
    exact ⟨_, rfl, hb, rfl⟩
  refine ⟨?_, ?_⟩
  · intro a w hB hF hd
    exact step_move (guard_none rfl) rfl _ rfl ((hF.other 2 rfl).trans S.v2)
  refine ⟨?_, ?_⟩
  · intro a w hB hF hd
    have h0 : a.tmps.getD 64 undef = itemV ⟨3, y - 3, (j : Int) + 1, z - 100⟩ := hd.1 rfl
    have h1 : a.tmps.getD 65 undef = .slice B m d := hd.2.1 rfl
    refine step_call (guard_none rfl) rfl _ _ (call_run Try.func17 (by kernel_rfl) (by kernel_rfl) _ _ rfl) ?_
    simp only [List.map_toArray, List.map_cons, List.map_nil, Act.eval, h0, h1]
    refine (one_ok ⟨3, y - 3, (j : Int) + 1, z - 100⟩ B m d bs w (S.bs.below hB) (itemB_iff.2 (by simp only; omega)) S.bb).mono ?_
    rw [S.eZ]
    rintro e w1 ⟨y2, _, rfl, hh, hb⟩
    exact ⟨_, rfl, hb, y2, rfl, hh⟩
  refine ⟨?_, ?_⟩
  · intro a w hB hF hd
    obtain ⟨y2, h0, hy⟩ : joinF Z (a.tmps.getD 66 undef) w := hd.1 rfl
    exact step_move (guard_none rfl) rfl _ rfl ⟨y2, h0, hy⟩
  refine ⟨?_, ?_⟩
  · intro a w hB hF hd
    obtain ⟨y2, h0, hy⟩ : joinF Z (a.tmps.getD 48 undef) w := hd.1 rfl
    exact step_extract (guard_none rfl) rfl _ 0 rfl _ _ h0 rfl ⟨y2, rfl, hy⟩
  refine ⟨?_, ?_⟩
  · intro a w hB hF hd
    obtain ⟨y2, h0, hy⟩ : joinF Z (a.tmps.getD 48 undef) w := hd.1 rfl
    exact step_extract (guard_none rfl) rfl _ 1 rfl _ _ h0 rfl rfl
  refine ⟨?_, ?_⟩
  · intro a w hB hF hd
    exact step_allocA (guard_none rfl) rfl rfl (fun w' _ hw => ⟨_, rfl, hB.size, hw⟩)
  trivial
theorem row11_any {Q : Exit → Act → World → Prop} {L : List Oper} (hl : opsOf 11 Try.f4 = L)
    (hend : ∀ (y1 y2 y3 g13 : Nat) (w : World), Below w0.heap.size w0 w → Has w y3 3 (ints Z.h) → w0.heap.size ≤ g13 → Has w g13 29 (accC zeroAc none 0 0) →
      wpList Try.prog L.toArray Q (L.drop 22) (putAll a0 [(49, .slice (some ⟨b, f, none⟩) n c), (50, .int .i64 (j : Int)), (51, .pointer (some ⟨b, f + j, none⟩)), (52, .int .i64 x), (53, .int .i64 (x / 256)), (54, .int .i64 y), (55, .int .i64 (y - 3)), (56, .int .i64 (j : Int)), (57, .int .i64 ((j : Int) + 1)), (58, .slice (some ⟨b, f, none⟩) n c), (59, .int .i64 (j : Int)), (60, .pointer (some ⟨b, f + j, none⟩)), (61, .int .i64 x), (62, .int .i64 z), (63, .int .i64 (z - 100)), (64, itemV ⟨3, y - 3, (j : Int) + 1, z - 100⟩), (65, .slice B m d), (66, .tuple #[accV Z (some ⟨y1, 0, none⟩) Z.h.length Z.h.length, .int .i64 0]), (48, .tuple #[accV Z (some ⟨y2, 0, none⟩) Z.h.length Z.h.length, .int .i64 0]), (67, accV Z (some ⟨y3, 0, none⟩) Z.h.length Z.h.length), (68, .int .i64 0), (13, .pointer (some ⟨g13, 0, none⟩))]) w)
    (hendQ : ∀ (y1 y2 y3 g13 : Nat) (w : World), Below w0.heap.size w0 w → Has w y3 3 (ints Z.h) → w0.heap.size ≤ g13 → Has w g13 29 (accC zeroAc none 0 0) →
      wpList Try.prog L.toArray Q (pickL L [22, 20, 23]) (putAll a0 [(49, .slice (some ⟨b, f, none⟩) n c), (50, .int .i64 (j : Int)), (51, .pointer (some ⟨b, f + j, none⟩)), (52, .int .i64 x), (53, .int .i64 (x / 256)), (54, .int .i64 y), (55, .int .i64 (y - 3)), (56, .int .i64 (j : Int)), (57, .int .i64 ((j : Int) + 1)), (58, .slice (some ⟨b, f, none⟩) n c), (59, .int .i64 (j : Int)), (60, .pointer (some ⟨b, f + j, none⟩)), (61, .int .i64 x), (62, .int .i64 z), (63, .int .i64 (z - 100)), (64, itemV ⟨3, y - 3, (j : Int) + 1, z - 100⟩), (65, .slice B m d), (66, .tuple #[accV Z (some ⟨y1, 0, none⟩) Z.h.length Z.h.length, .int .i64 0]), (48, .tuple #[accV Z (some ⟨y2, 0, none⟩) Z.h.length Z.h.length, .int .i64 0]), (67, accV Z (some ⟨y3, 0, none⟩) Z.h.length Z.h.length), (68, a0.tmps.getD 68 undef), (13, .pointer (some ⟨g13, 0, none⟩))]) w) :
    (Code.region 11 L.toArray true).wp Try.prog Q a0 w0 := by
  subst hl
  refine region_head3 (row11F b f n c j B m d x y z Z w0.heap.size) row11D 22 171 20 [20, 23] S.size rfl (by kernel_rfl) (by kernel_rfl) (by kernel_rfl) (row11F_mono _ _ _ _ _ _ _ _ _ _ _ _ _) (row11_ok S) ?_ ?_
  · intro a w hB hF h
    obtain ⟨y1, h66, _⟩ := h 17 (some 66) (by omega) rfl
    obtain ⟨y2, h48, _⟩ := h 18 (some 48) (by omega) rfl
    obtain ⟨y3, h67, hy⟩ := h 19 (some 67) (by omega) rfl
    obtain ⟨g13, h13, hN, hg⟩ := h 21 (some 13) (by omega) rfl
    rw [frame_is hF [(49, .slice (some ⟨b, f, none⟩) n c), (50, .int .i64 (j : Int)), (51, .pointer (some ⟨b, f + j, none⟩)), (52, .int .i64 x), (53, .int .i64 (x / 256)), (54, .int .i64 y), (55, .int .i64 (y - 3)), (56, .int .i64 (j : Int)), (57, .int .i64 ((j : Int) + 1)), (58, .slice (some ⟨b, f, none⟩) n c), (59, .int .i64 (j : Int)), (60, .pointer (some ⟨b, f + j, none⟩)), (61, .int .i64 x), (62, .int .i64 z), (63, .int .i64 (z - 100)), (64, itemV ⟨3, y - 3, (j : Int) + 1, z - 100⟩), (65, .slice B m d), (66, .tuple #[accV Z (some ⟨y1, 0, none⟩) Z.h.length Z.h.length, .int .i64 0]), (48, .tuple #[accV Z (some ⟨y2, 0, none⟩) Z.h.length Z.h.length, .int .i64 0]), (67, accV Z (some ⟨y3, 0, none⟩) Z.h.length Z.h.length), (68, .int .i64 0), (13, .pointer (some ⟨g13, 0, none⟩))]
      ⟨h 0 (some 49) (by omega) rfl, h 1 (some 50) (by omega) rfl, h 2 (some 51) (by omega) rfl, h 3 (some 52) (by omega) rfl, h 4 (some 53) (by omega) rfl, h 5 (some 54) (by omega) rfl, h 6 (some 55) (by omega) rfl, h 7 (some 56) (by omega) rfl, h 8 (some 57) (by omega) rfl, h 9 (some 58) (by omega) rfl, h 10 (some 59) (by omega) rfl, h 11 (some 60) (by omega) rfl, h 12 (some 61) (by omega) rfl, h 13 (some 62) (by omega) rfl, h 14 (some 63) (by omega) rfl, h 15 (some 64) (by omega) rfl, h 16 (some 65) (by omega) rfl, h66, h48, h67, h 20 (some 68) (by omega) rfl, h13, trivial⟩ (by rfl) (by rfl)]
    exact hend y1 y2 y3 g13 w hB hy hN hg
  · intro a w hB hF h hq
    obtain ⟨y1, h66, _⟩ := h 17 (some 66) (by omega) (by omega) rfl
    obtain ⟨y2, h48, _⟩ := h 18 (some 48) (by omega) (by omega) rfl
    obtain ⟨y3, h67, hy⟩ := h 19 (some 67) (by omega) (by omega) rfl
    obtain ⟨g13, h13, hN, hg⟩ := h 21 (some 13) (by omega) (by omega) rfl
    rw [frame_is hF [(49, .slice (some ⟨b, f, none⟩) n c), (50, .int .i64 (j : Int)), (51, .pointer (some ⟨b, f + j, none⟩)), (52, .int .i64 x), (53, .int .i64 (x / 256)), (54, .int .i64 y), (55, .int .i64 (y - 3)), (56, .int .i64 (j : Int)), (57, .int .i64 ((j : Int) + 1)), (58, .slice (some ⟨b, f, none⟩) n c), (59, .int .i64 (j : Int)), (60, .pointer (some ⟨b, f + j, none⟩)), (61, .int .i64 x), (62, .int .i64 z), (63, .int .i64 (z - 100)), (64, itemV ⟨3, y - 3, (j : Int) + 1, z - 100⟩), (65, .slice B m d), (66, .tuple #[accV Z (some ⟨y1, 0, none⟩) Z.h.length Z.h.length, .int .i64 0]), (48, .tuple #[accV Z (some ⟨y2, 0, none⟩) Z.h.length Z.h.length, .int .i64 0]), (67, accV Z (some ⟨y3, 0, none⟩) Z.h.length Z.h.length), (68, a0.tmps.getD 68 undef), (13, .pointer (some ⟨g13, 0, none⟩))]
      ⟨h 0 (some 49) (by omega) (by omega) rfl, h 1 (some 50) (by omega) (by omega) rfl, h 2 (some 51) (by omega) (by omega) rfl, h 3 (some 52) (by omega) (by omega) rfl, h 4 (some 53) (by omega) (by omega) rfl, h 5 (some 54) (by omega) (by omega) rfl, h 6 (some 55) (by omega) (by omega) rfl, h 7 (some 56) (by omega) (by omega) rfl, h 8 (some 57) (by omega) (by omega) rfl, h 9 (some 58) (by omega) (by omega) rfl, h 10 (some 59) (by omega) (by omega) rfl, h 11 (some 60) (by omega) (by omega) rfl, h 12 (some 61) (by omega) (by omega) rfl, h 13 (some 62) (by omega) (by omega) rfl, h 14 (some 63) (by omega) (by omega) rfl, h 15 (some 64) (by omega) (by omega) rfl, h 16 (some 65) (by omega) (by omega) rfl, h66, h48, h67, hq (some 68) rfl, h13, trivial⟩ (by rfl) (by rfl)]
    exact hendQ y1 y2 y3 g13 w hB hy hN hg
end

end Go.Proofs.Ytdpjmkpgphgleaa

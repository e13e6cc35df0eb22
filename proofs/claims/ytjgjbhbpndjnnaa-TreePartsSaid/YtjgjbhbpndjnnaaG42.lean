/-
  Plain: items whose numbers rise, laid in one by one. No program here.
  SameItems' drawn region (written by gen/sesi.py).
-/
import Derived.Test.YtjgjbhbpndjnnaaG40
import Derived.Test.YtjgjbhbpndjnnaaRf
import Derived.Test.YtjgjbhbpndjnnaaG19
namespace Go.Proofs.Ytjgjbhbpndjnnaa

/-- Items of one series, numbered from one on. -/
structure Fam (σ : Int) (f : Nat → It) : Prop where
  s : ∀ i, (f i).s = σ
  q : ∀ i : Nat, (f i).q = (i : Int) + 1
  ok : ∀ i, i < 64 → itemB (f i) = true
def rowF (f : Nat → It) (n : Nat) : List It := (List.range n).map f
section
variable {σ : Int} {f : Nat → It} {n j : Nat} {bs : List Int} {R xs : List It}
theorem rowF_succ (f : Nat → It) (n : Nat) : rowF f (n + 1) = rowF f n ++ [f n] := by simp [rowF, List.range_succ]
theorem rowF_len (f : Nat → It) (n : Nat) : (rowF f n).length = n := by simp [rowF]
theorem rowF_mem {y : It} (h : y ∈ rowF f n) : ∃ i, i < n ∧ y = f i := by
  obtain ⟨i, hi, rfl⟩ := List.mem_map.1 h
  exact ⟨i, by simpa using hi, rfl⟩
theorem rowF_in {i : Nat} (h : i < n) : f i ∈ rowF f n := List.mem_map.2 ⟨i, by simpa using h, rfl⟩
theorem Fam.its (F : Fam σ f) (hb : boundsB bs = true) (hn : n ≤ 64) : ItsT bs (rowF f n) :=
  ⟨hb, fun x hx => by obtain ⟨i, hi, rfl⟩ := rowF_mem hx; exact F.ok i (by omega), fun x hx y hy => by
    obtain ⟨i, _, rfl⟩ := rowF_mem hx
    obtain ⟨k, _, rfl⟩ := rowF_mem hy
    rw [F.s, F.s], by rw [rowF_len]; omega⟩
/-- The next one may stand with some of those ahead. -/
theorem Fam.fit (F : Fam σ f) (hb : boundsB bs = true) (hj : j < 64) (hR : ∀ y, y ∈ R → y ∈ rowF f j) (hl : R.length ≤ j) : fitT R [f j] = true := by
  have h1 : ItsT bs (rowF f (j + 1)) := F.its hb (by omega)
  have hR2 : ItsT bs R := h1.sub (fun y hy => by rw [rowF_succ]; exact List.mem_append_left _ (hR y hy)) (by rw [rowF_len]; omega)
  refine (fitT_iff hR2).2 (h1.sub (fun y hy => ?_) (by rw [rowF_len, List.length_append, List.length_singleton]; omega))
  rw [rowF_succ]
  rcases List.mem_append.1 hy with hy | hy
  · exact List.mem_append_left _ (hR y hy)
  · exact List.mem_append_right _ hy
theorem Fam.new (F : Fam σ f) (hR : ∀ y, y ∈ R → y ∈ rowF f j) : NewS R [f j] :=
  ⟨fun x hx => by
    simp only [List.mem_singleton] at hx
    subst hx
    refine twinB_no.2 fun y hy h => ?_
    obtain ⟨i, hi, rfl⟩ := rowF_mem (hR y hy)
    have := h.2
    rw [F.q, F.q] at this
    omega, List.pairwise_singleton _ _⟩
theorem Fam.news (F : Fam σ f) (n : Nat) : NewS [] (rowF f n) :=
  ⟨fun _ _ => rfl, by
    refine List.pairwise_map.2 (List.Pairwise.imp ?_ List.pairwise_lt_range)
    intro a b hab e
    have := e.2
    rw [F.q, F.q] at this
    omega⟩
theorem NewS.sublist {xs ys : List It} (h : NewS R ys) (hs : xs.Sublist ys) : NewS R xs := ⟨fun x hx => h.1 x (hs.subset hx), h.2.sublist hs⟩
theorem insAll_mem {y : It} : y ∈ insAll [] xs ↔ y ∈ xs := by rw [(insAll_perm [] xs).mem_iff, List.nil_append]
theorem insAll_len (xs : List It) : (insAll [] xs).length = xs.length := by rw [(insAll_perm [] xs).length_eq, List.nil_append]
theorem stay_snoc (b : Int) (xs : List It) (x : It) : stay b (xs ++ [x]) = if x.t < b then stay b xs else stay b xs ++ [x] := by
  unfold stay
  rw [List.filter_append]
  split
  · next h => simp; omega
  · next h => simp; omega
theorem stay_mem {b : Int} {y : It} : y ∈ stay b xs ↔ y ∈ xs ∧ ¬ y.t < b := by simp [stay, List.mem_filter]
/-- What stays of all, laid in, is what stays, laid in. -/
theorem stay_all_in (b : Int) (h : NewS [] xs) : stay b (insAll [] xs) = insAll [] (stay b xs) := by
  refine StrS.eq ((insAll_str List.Pairwise.nil h).filter _) (insAll_str List.Pairwise.nil (h.sublist List.filter_sublist)) fun y => ?_
  show y ∈ stay b (insAll [] xs) ↔ _
  rw [stay_mem, insAll_mem, insAll_mem, stay_mem]
/-- A span, cut. -/
theorem inS_cut {a m b : Int} (hs : StrS R) (h1 : a ≤ m) (h2 : m ≤ b) : inS a b R = inS a m R ++ inS m b R := by
  refine StrS.eq (hs.filter _) (List.pairwise_append.2 ⟨hs.filter _, hs.filter _, fun x hx y hy => ?_⟩) fun y => ?_
  · have e1 := (List.mem_filter.1 hx).2
    have e2 := (List.mem_filter.1 hy).2
    rw [decide_eq_true_eq] at e1 e2
    rw [lt2_iff]
    omega
  · unfold inS
    rw [List.mem_append, List.mem_filter, List.mem_filter, List.mem_filter, decide_eq_true_eq, decide_eq_true_eq, decide_eq_true_eq]
    constructor
    · rintro ⟨h, h3⟩
      by_cases h4 : y.t < m
      · exact .inl ⟨h, by omega⟩
      · exact .inr ⟨h, by omega⟩
    · rintro (⟨h, h3⟩ | ⟨h, h3⟩)
      · exact ⟨h, by omega⟩
      · exact ⟨h, by omega⟩
theorem inS_none {a b : Int} (h : b ≤ a) : inS a b R = [] := List.filter_eq_nil_iff.2 fun y _ => by simp; omega
end

end Go.Proofs.Ytjgjbhbpndjnnaa

namespace Go.Proofs.Ytjgjbhbpndjnnaa
open Go.RowKit

set_option maxRecDepth 100000 in
theorem rf_neqI {D : List (Option Tmp)} {Φ : Fact} {o : Oper} {a : Act} {w : World} (hw : Region.wanted o (yieldD D a.tmps) = true) {t : Tmp} (hd : o.dst = some t) (x y : Operand) (ho : o.op = .binOp .neq 23 x y 23) (z : It) (hx : a.eval x = .agg #[.int .i64 z.s, .int .i64 z.t, .int .i64 z.q, .int .i64 z.v]) (hy : a.eval y = .agg #[.int .i64 z.s, .int .i64 z.t, .int .i64 z.q, .int .i64 z.v]) (h : Φ (.bool false) w) : StepD Try.prog D Φ o a w :=
  step_val hw hd _ _ (by unfold execOp; rw [ho]; simp only [hx, hy]; simp [go_sem]) (Below.refl _ _) h
def sitD : List (Option Tmp) := [some 17, some 18, some 19, some 20, some 21, some 22, some 23, some 24, some 25]
def sitF (x : It) (b1 o1 b2 o2 n e1 e2 q : Nat) : List Fact := [isV (.slice (some ⟨b1, o1, none⟩) n e1), isV (.int .i64 q), isV (.pointer (some ⟨b1, o1 + q * 4, none⟩)), isV (.agg #[.int .i64 x.s, .int .i64 x.t, .int .i64 x.q, .int .i64 x.v]), isV (.slice (some ⟨b2, o2, none⟩) n e2), isV (.int .i64 q), isV (.pointer (some ⟨b2, o2 + q * 4, none⟩)), isV (.agg #[.int .i64 x.s, .int .i64 x.t, .int .i64 x.q, .int .i64 x.v]), isV (.bool false)]
set_option maxRecDepth 100000 in
theorem sitF_mono (x : It) (b1 o1 b2 o2 n e1 e2 q : Nat) : ∀ φ ∈ sitF x b1 o1 b2 o2 n e1 e2 q, Mono φ := by
  unfold sitF
  repeat (first | exact monos_nil | (refine monos_cons (mono_isV _) ?_))
structure sitS (x : It) (b1 o1 b2 o2 n e1 e2 q : Nat) (a0 : Act) (w0 : World) : Prop where
  size : a0.tmps.size = 26
  v0 : a0.tmps.getD 0 undef = .slice (some ⟨b1, o1, none⟩) n e1
  v1 : a0.tmps.getD 1 undef = .slice (some ⟨b2, o2, none⟩) n e2
  v5 : a0.tmps.getD 5 undef = .int .i64 q
  x1 : w0.rangeAt b1 (o1 + q * 4) (itemL x)
  x2 : w0.rangeAt b2 (o2 + q * 4) (itemL x)
  hq : q < n
section
variable {x : It} {b1 o1 b2 o2 n e1 e2 q : Nat} {a0 : Act} {w0 : World} (S : sitS x b1 o1 b2 o2 n e1 e2 q a0 w0)
include S
set_option maxRecDepth 100000 in
set_option maxHeartbeats 8000000 in
theorem sit_ok : AllOps (fun j o => ∀ (a : Act) (w : World), Below w0.heap.size w0 w → FrD sitD a0 a → needs sitD (sitF x b1 o1 b2 o2 n e1 e2 q) a w o.after.toList → StepD Try.prog sitD (factAt (sitF x b1 o1 b2 o2 n e1 e2 q) j) o a w) 0 (opsOf 6 Try.f36) := by
  simp only [opsOf, Try.f36, opsAt, Option.bind, Option.or, Option.getD, reduceCtorEq, if_true, if_false, Nat.reduceEqDiff]
  refine ⟨?_, ?_⟩
  · intro _a _w _hB hF _hd
    exact step_move (guard_none rfl) rfl _ rfl ((hF.other 0 rfl).trans S.v0)
  refine ⟨?_, ?_⟩
  · intro _a _w _hB hF _hd
    exact step_move (guard_none rfl) rfl _ rfl ((hF.other 5 rfl).trans S.v5)
  refine ⟨?_, ?_⟩
  · intro a _w _hB _hF hd
    have h17 : a.tmps.getD 17 undef = .slice (some ⟨b1, o1, none⟩) n e1 := hd.1 rfl
    have h18 : a.tmps.getD 18 undef = .int .i64 q := hd.2.1 rfl
    exact rf_index (guard_none rfl) rfl _ _ _ rfl Try.underlying52 4 (fun _ => by kernel_rfl) _ _ _ _ q _ h17 h18 rfl S.hq rfl
  refine ⟨?_, ?_⟩
  · intro a _w hB _hF hd
    have h19 : a.tmps.getD 19 undef = .pointer (some ⟨b1, o1 + q * 4, none⟩) := hd.1 rfl
    exact rf_loadS (guard_none rfl) rfl _ _ rfl _ _ h19 _ (rangeAt_keep S.x1 (by simp [itemL]) fun _ hp => hB.cell hp) Try.underlying23 rfl Try.sizeItem rfl
  refine ⟨?_, ?_⟩
  · intro _a _w _hB hF _hd
    exact step_move (guard_none rfl) rfl _ rfl ((hF.other 1 rfl).trans S.v1)
  refine ⟨?_, ?_⟩
  · intro _a _w _hB hF _hd
    exact step_move (guard_none rfl) rfl _ rfl ((hF.other 5 rfl).trans S.v5)
  refine ⟨?_, ?_⟩
  · intro a _w _hB _hF hd
    have h21 : a.tmps.getD 21 undef = .slice (some ⟨b2, o2, none⟩) n e2 := hd.1 rfl
    have h22 : a.tmps.getD 22 undef = .int .i64 q := hd.2.1 rfl
    exact rf_index (guard_none rfl) rfl _ _ _ rfl Try.underlying52 4 (fun _ => by kernel_rfl) _ _ _ _ q _ h21 h22 rfl S.hq rfl
  refine ⟨?_, ?_⟩
  · intro a _w hB _hF hd
    have h23 : a.tmps.getD 23 undef = .pointer (some ⟨b2, o2 + q * 4, none⟩) := hd.1 rfl
    exact rf_loadS (guard_none rfl) rfl _ _ rfl _ _ h23 _ (rangeAt_keep S.x2 (by simp [itemL]) fun _ hp => hB.cell hp) Try.underlying23 rfl Try.sizeItem rfl
  refine ⟨?_, ?_⟩
  · intro a _w _hB _hF hd
    have h20 : a.tmps.getD 20 undef = .agg #[.int .i64 x.s, .int .i64 x.t, .int .i64 x.q, .int .i64 x.v] := hd.1 rfl
    have h24 : a.tmps.getD 24 undef = .agg #[.int .i64 x.s, .int .i64 x.t, .int .i64 x.q, .int .i64 x.v] := hd.2.1 rfl
    exact rf_neqI (guard_none rfl) rfl _ _ rfl x h20 h24 rfl
  trivial
set_option maxRecDepth 100000 in
theorem sit_any {Q : Exit → Act → World → Prop} {l : List Oper} (hl : opsOf 6 Try.f36 = l) (hend : ∀ w : World, Below w0.heap.size w0 w → Q .normal (putAll a0 [(17, .slice (some ⟨b1, o1, none⟩) n e1), (18, .int .i64 q), (19, .pointer (some ⟨b1, o1 + q * 4, none⟩)), (20, .agg #[.int .i64 x.s, .int .i64 x.t, .int .i64 x.q, .int .i64 x.v]), (21, .slice (some ⟨b2, o2, none⟩) n e2), (22, .int .i64 q), (23, .pointer (some ⟨b2, o2 + q * 4, none⟩)), (24, .agg #[.int .i64 x.s, .int .i64 x.t, .int .i64 x.q, .int .i64 x.v]), (25, .bool false)]) w) :
    (Code.region 6 l.toArray true).wp Try.prog Q a0 w0 := by
  subst hl
  refine region_facts2 (sitF x b1 o1 b2 o2 n e1 e2 q) sitD 26 S.size rfl (by kernel_rfl) (by kernel_rfl) (sitF_mono _ _ _ _ _ _ _ _ _) (sit_ok S) fun a w hB hF h => ?_
  have hv : valsAre a [(17, .slice (some ⟨b1, o1, none⟩) n e1), (18, .int .i64 q), (19, .pointer (some ⟨b1, o1 + q * 4, none⟩)), (20, .agg #[.int .i64 x.s, .int .i64 x.t, .int .i64 x.q, .int .i64 x.v]), (21, .slice (some ⟨b2, o2, none⟩) n e2), (22, .int .i64 q), (23, .pointer (some ⟨b2, o2 + q * 4, none⟩)), (24, .agg #[.int .i64 x.s, .int .i64 x.t, .int .i64 x.q, .int .i64 x.v]), (25, .bool false)] := by
    refine ⟨?_, ?_, ?_, ?_, ?_, ?_, ?_, ?_, ?_, trivial⟩
    · exact h 0 (some 17) rfl
    · exact h 1 (some 18) rfl
    · exact h 2 (some 19) rfl
    · exact h 3 (some 20) rfl
    · exact h 4 (some 21) rfl
    · exact h 5 (some 22) rfl
    · exact h 6 (some 23) rfl
    · exact h 7 (some 24) rfl
    · exact h 8 (some 25) rfl
  rw [frame_is hF _ hv (by rfl) (by rfl)]
  exact hend w hB
end

end Go.Proofs.Ytjgjbhbpndjnnaa

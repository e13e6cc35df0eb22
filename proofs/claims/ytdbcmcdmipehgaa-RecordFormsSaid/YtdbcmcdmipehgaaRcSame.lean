/-
  Walk: the laws' helper SameRec of like records.
-/
import Derived.Test.YtdbcmcdmipehgaaRcSameQ
namespace Go.Proofs.Ytdbcmcdmipehgaa
open Go.RowKit

set_option maxRecDepth 100000 in
set_option maxHeartbeats 1000000 in
theorem samerec_true (r : Rc) (A B : Option Addr) (n c d : Nat) (w : World) (h1 : Ints w A n r.hs) (h2 : Ints w B n r.hs) (hn : n ≤ maxLen) :
    Calls Try.prog 11 #[.agg (recC r A n c), .agg (recC r B n d)] w fun e w' => e = .returned (.bool true) ∧ Below w.heap.size w w' := by
  obtain ⟨kd, qu, sr, st, en, va, ov, hs, se, ti, sq, bd⟩ := r
  have H1 := Lib.hid h1
  have H2 := Lib.hid h2
  have HN := Lib.hid hn
  clear h1 h2 hn
  go_enter Try.func11, Try.ntmps11
  go_upto_region 1 with fail
  have hb : Below w.heap.size w ((w.alloc (.cells (recC ⟨kd, qu, sr, st, en, va, ov, hs, se, ti, sq, bd⟩ A n c) 30)).alloc (.cells (recC ⟨kd, qu, sr, st, en, va, ov, hs, se, ti, sq, bd⟩ B n d) 30)) := below_alloc ((Below.refl _ _).alloc (Nat.le_refl _) _) (Nat.le_refl _) _
  have HB := Lib.hid hb
  refine rsc_any (kd := kd) (qu := qu) (sr := sr) (st := st) (en := en) (va := va) (ov := ov) (se := se) (ti := ti) (sq := sq) (bd := bd) (A := A) (B := B) (n := n) (c := c) (d := d) (b1 := w.heap.size) (b2 := w.heap.size + 1) (hs := hs) ⟨rfl, rfl, by first | rfl | simp, (Has.made _ _ _).alloc _, by simpa using Has.made (w.alloc (.cells (recC ⟨kd, qu, sr, st, en, va, ov, hs, se, ti, sq, bd⟩ A n c) 30)) 30 (recC ⟨kd, qu, sr, st, en, va, ov, hs, se, ti, sq, bd⟩ B n d), H1.out.below hb, H2.out.below hb, HN.out⟩ (by kernel_rfl) ?_
  intro g41 g44 w2 hb2 _ _
  have HB2 := Lib.hid (hb.trans (hb2.mono hb.size))
  clear hb2 HB hb
  simp only [putAll, Act.put, List.setIfInBounds_toArray, List.set_cons_succ, List.set_cons_zero]
  go_wp2_with fail
  go_ret
  exact ⟨rfl, HB2.out⟩

end Go.Proofs.Ytdbcmcdmipehgaa

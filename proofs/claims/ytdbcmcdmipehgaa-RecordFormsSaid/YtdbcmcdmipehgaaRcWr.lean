/-
  Walks: numbers.Writer's Put of a row that came in; record.putResult.
-/
import Derived.Test.YtdbcmcdmipehgaaWiWr
import Derived.Test.YtdbcmcdmipehgaaRcP
namespace Go.Proofs.Ytdbcmcdmipehgaa
open Go.RowKit

/-- What a call leaves that only turns the writer g and its row of bytes. -/
structure KeptW (g : Nat) (w w' : World) : Prop where
  old : Below g w w'
  keep : ∀ (k : Nat) (t : TypeId) (cs : Array Value), k ≠ g → t ≠ 5 → Has w k t cs → Has w' k t cs
theorem KeptW.refl (g : Nat) (w : World) : KeptW g w w := ⟨Below.refl _ _, fun _ _ _ _ _ h => h⟩
theorem KeptW.trans {g : Nat} {w w' w'' : World} (h : KeptW g w w') (h' : KeptW g w' w'') : KeptW g w w'' := ⟨h.old.trans h'.old, fun k t cs hk ht hh => h'.keep k t cs hk ht (h.keep k t cs hk ht hh)⟩
theorem KeptW.alloc {g : Nat} {w w' : World} (h : KeptW g w w') (hg : g ≤ w'.heap.size) (o : Obj) : KeptW g w (w'.alloc o) := ⟨h.old.trans ((Below.refl _ _).alloc hg _), fun k t cs hk ht hh => (h.keep k t cs hk ht hh).alloc _⟩
/-- A writer in its loop over numbers that lie elsewhere. -/
structure PutI (w0 : World) (g : Nat) (xs : List Int) (l : List UInt8) (j : Nat) (v : Value) (w : World) : Prop where
  has : Has w g 51 #[v]
  own : OwnB w (g + 1) v (l ++ encs (xs.take j))
  old : KeptW g w0 w
set_option maxRecDepth 100000 in
set_option maxHeartbeats 1000000 in
theorem wrputI_any (g : Nat) (B : Option Addr) (n cap : Nat) (xs : List Int) (l : List UInt8) (v : Value) (w : World) (hn : xs.length = n) (hn9 : n ≤ 9) (hx : ∀ x ∈ xs, -9223372036854775808 ≤ x ∧ x ≤ 9223372036854775807) (hl : l.length ≤ 1000)
    (hg : Has w g 51 #[v]) (ho : OwnB w (g + 1) v l) (hn' : n ≤ maxLen) (hh : ∀ w', KeptW g w w' → Ints w' B n xs) :
    Calls Try.prog 16 #[.pointer (some ⟨g, 0, none⟩), .slice B n cap] w fun e w' => e = .returned (.tuple #[]) ∧ KeptW g w w' ∧ ∃ v', Has w' g 51 #[v'] ∧ OwnB w' (g + 1) v' (l ++ encs xs) := by
  have H0 : Hid (PutI w g xs l 0 v w) := Lib.hid ⟨hg, by simpa [encs] using ho, KeptW.refl _ _⟩
  have HX := Lib.hid hx
  have HN := Lib.hid hn
  have HH := Lib.hid hh
  clear hg ho hh hx hn
  go_enter Try.func16, Try.ntmps16
  go_wp2_with fail
  go_loopw [8] (fun i wr => ∃ (j : Nat) (u : Value), j ≤ n ∧ i = .int .i64 j ∧ Hid (PutI w g xs l j u wr)) (fun i _ => n - (intOf i).toNat)
  case atStart => exact ⟨0, v, Nat.zero_le _, rfl, H0⟩
  case round =>
    clear H0
    obtain ⟨j, u, hj, rfl, HS⟩ := hrel
    by_cases hlt : j < n
    · have hjx : j < xs.length := by rw [HN.out]; exact hlt
      have hjn : (j : Int) < (n : Int) := by omega
      obtain ⟨bb, oo, rfl, hc0⟩ := (HH.out wr HS.out.old).at_ (k := 0) (by omega)
      have cn : wr.cell? ⟨bb, oo + j, none⟩ = some (.int .i64 (nth xs j)) := hc0 j hlt
      clear hc0
      have hxj := HX.out (nth xs j) (by simp [nth, List.getElem?_eq_getElem hjx])
      obtain ⟨A, d, hu, _⟩ := HS.out.own.form
      generalize (l ++ encs (xs.take j)).length = m at hu
      subst hu
      have ha : (Value.slice A m d).ownBlock ≠ some g := HS.out.own.apart HS.out.has (by decide)
      have cw : wr.cell? ⟨g, 0, none⟩ = some (.slice A m d) := HS.out.has.cell 0
      have htk := take_succ xs hjx
      have hle : (l ++ encs (xs.take j)).length + (encS (nth xs j)).size ≤ 140737488355328 := by
        have h1 := encs_len (xs := xs.take j) (fun x hx => HX.out x (List.mem_of_mem_take hx))
        have h2 := (encX_len hxj.1 hxj.2).2
        rw [encS_size, List.length_append]
        simp only [List.length_take] at h1
        omega
      have hdata : (encS (nth xs j)).data.toList = encs [nth xs j] := by rw [encS_list]; simp [encs, encX]
      have HO := Lib.hid (fun (w1 : World) (b : Below wr.heap.size wr w1) => HS.out.own.below b)
      have HL := Lib.hid (And.intro hle (And.intro htk hdata))
      have hglt := HS.out.has.lt
      have HD := Lib.hid ha
      have HK := Lib.hid (fun (k : Nat) (t : TypeId) (cs : Array Value) (h : Has wr k t cs) (ht : t ≠ 5) => HS.out.own.apart h ht)
      clear ha htk hle hdata
      go_wp2_with fail
      have HR : ∀ (w1 w2 : World) (A2 : Option Addr) (n2 d2 : Nat), Below wr.heap.size wr w1 → OwnB w2 (g + 1) (.slice A2 n2 d2) ((l ++ encs (xs.take j)) ++ (encS (nth xs j)).data.toList) → w1.grownBy w2 (Value.slice A m d).ownBlock → PutI w g xs l (j + 1) (.slice A2 n2 d2) (w2.setCell ⟨g, 0, none⟩ (.slice A2 n2 d2)) ∧ Has w2 g 51 #[.slice A m d] := by
        intro w1 w2 A2 n2 d2 b1 ho2 hg2
        have h1 := grown_has hg2 (HS.out.has.below b1 HS.out.has.lt) HD.out
        have h3 := below_grown (HO.out w1 b1) hg2 (by have := b1.size; omega)
        refine ⟨⟨h1.put 0 _, ?_, HS.out.old.trans ⟨((b1.mono (B' := g) (by omega)).trans (h3.mono (B' := g) (by omega))).setCell (Nat.le_refl _) _, fun k t cs hk ht hh => (grown_has hg2 (hh.below b1 hh.lt) (HK.out k t cs hh ht)).putFar hk _⟩⟩, h1⟩
        have e : (l ++ encs (xs.take j)) ++ (encS (nth xs j)).data.toList = l ++ encs (xs.take (j + 1)) := by rw [HL.out.2.2, HL.out.2.1, encs_append, List.append_assoc]
        rw [e] at ho2
        exact ownB_put ho2 h1 (by decide) 0 _
      have HR := Lib.hid HR
      refine wp3_any (g := g) (m := m) (c := d) (A := A) (x := nth xs j) ⟨rfl, rfl, rfl, cw, hxj.1, hxj.2⟩ rfl ?_ ?_
      · intro w1 b1
        have ho1 := HO.out w1 b1
        have hgs : g + 1 ≤ w1.heap.size := by have := b1.size; omega
        simp only [putAll, Act.put, List.setIfInBounds_toArray, List.set_cons_succ, List.set_cons_zero, List.drop_succ_cons, List.drop_zero]
        go_wp2_with (refine app_strG rfl _ _ rfl rfl ho1 rfl HL.out.1 hgs (fun A2 n2 d2 w2 ho2 hg2 => ?_); have hs2 := HR.out w1 w2 A2 n2 d2 b1 ho2 hg2; have c2 : w2.cell? ⟨g, 0, none⟩ = some (.slice A m d) := hs2.2.cell 0; have m2 := hs2.2.mark 0)
        exact ⟨⟨j + 1, _, by omega, by go_num, Lib.hid hs2.1⟩, by simp [intOf]; omega⟩
      · intro w1 b1
        have ho1 := HO.out w1 b1
        have hgs : g + 1 ≤ w1.heap.size := by have := b1.size; omega
        simp only [putAll, Act.put, List.setIfInBounds_toArray, List.set_cons_succ, List.set_cons_zero, pickL, List.filterMap_cons, List.getElem?_cons_succ, List.getElem?_cons_zero, List.filterMap_nil]
        refine app_strG rfl _ _ rfl rfl ho1 rfl HL.out.1 hgs (fun A2 n2 d2 w2 ho2 hg2 => ?_)
        have hs2 := HR.out w1 w2 A2 n2 d2 b1 ho2 hg2
        have c2 : w2.cell? ⟨g, 0, none⟩ = some (.slice A m d) := hs2.2.cell 0
        have m2 := hs2.2.mark 0
        go_wp2_with fail
        exact ⟨⟨j + 1, _, by omega, by go_num, Lib.hid hs2.1⟩, by simp [intOf]; omega⟩
    · have hjn : j = n := by omega
      subst hjn
      have h2 : xs.take j = xs := List.take_of_length_le (by rw [HN.out]; exact Nat.le_refl _)
      have h3 := HS.out.own
      rw [h2] at h3
      have h1 := HS.out.has
      have h4 := HS.out.old
      have HE := Lib.hid (And.intro h4 (And.intro h1 h3))
      clear h1 h2 h3 h4
      go_wp2_with fail
      exact Great.bodyPost_end0 rfl rfl ⟨rfl, HE.out.1, _, HE.out.2.1, HE.out.2.2⟩


/-- A writer: its bytes so far. -/
structure WrS (B : Nat) (w0 : World) (g : Nat) (l : List UInt8) (w : World) : Prop where
  old : Below B w0 w
  lt : B ≤ g
  wr : ∃ v, Has w g 51 #[v] ∧ OwnB w (g + 1) v l
section
variable {B : Nat} {w0 w w' : World} {g : Nat} {l l' : List UInt8}
theorem WrS.alloc (h : WrS B w0 g l w) (o : Obj) : WrS B w0 g l (w.alloc o) := by
  obtain ⟨v, h1, h2⟩ := h.wr
  exact ⟨h.old.alloc (by have := h1.lt; have := h.lt; omega) _, h.lt, v, h1.alloc _, h2.below ((Below.refl _ _).alloc (Nat.le_refl _) _)⟩
theorem WrS.below (h : WrS B w0 g l w) (hb : Below w.heap.size w w') : WrS B w0 g l w' := by
  obtain ⟨v, h1, h2⟩ := h.wr
  exact ⟨h.old.trans (hb.mono (by have := h1.lt; have := h.lt; omega)), h.lt, v, h1.below hb h1.lt, h2.below hb⟩
theorem WrS.gsize (h : WrS B w0 g l w) : g < w.heap.size := by
  obtain ⟨v, h1, _⟩ := h.wr
  exact h1.lt
theorem WrS.next (h : WrS B w0 g l w) (hb : Below g w w') (hw : ∃ v', Has w' g 51 #[v'] ∧ OwnB w' (g + 1) v' l') : WrS B w0 g l' w' :=
  ⟨h.old.trans (hb.mono h.lt), h.lt, hw⟩
/-- The next numbers are written: a row of the call's own. -/
theorem WrS.call (h : WrS B w0 g l w) (xs : List Int) (n : Nat) (hn : xs.length = n) (hn9 : n ≤ 9) (hx : ∀ x ∈ xs, -9223372036854775808 ≤ x ∧ x ≤ 9223372036854775807) (hl : l.length ≤ 1000) (H : Nat) (hH : w.heap.size = H) (cs' : Array Value) (hcs : ints xs = cs') :
    Calls Try.prog 16 #[.pointer (some ⟨g, 0, none⟩), .slice (some ⟨H, 0, none⟩) n n] (w.alloc (.cells cs' 3)) fun e w' => e = .returned (.tuple #[]) ∧ KeptW g w w' ∧ WrS B w0 g (l ++ encs xs) w' := by
  subst hH hcs
  have hg := h.gsize
  have h2 := h.alloc (.cells (ints xs) 3)
  obtain ⟨v, h3, h4⟩ := h2.wr
  refine (wrputI_any g (some ⟨w.heap.size, 0, none⟩) n n xs l v _ hn hn9 hx hl h3 h4 (by unfold maxLen; omega) (fun w' hk => ?_)).mono fun e w' ⟨he, hb, hw⟩ => ⟨he, ((KeptW.refl g w).alloc (by omega) _).trans hb, h2.next hb.old hw⟩
  have hq := hk.keep w.heap.size 3 _ (by omega) (by decide) (Has.made w 3 (ints xs))
  exact ⟨hn, fun _ => ⟨w.heap.size, 0, rfl, fun k hkn => by rw [Nat.zero_add, hq.cell]; exact ints_get xs (by omega)⟩⟩
theorem Ints.far {w : World} {A : Option Addr} {n : Nat} {xs : List Int} (h : Ints w A n xs) (h0 : 0 < n) : ∀ ad, A = some ad → ad.block < w.heap.size := fun ad e => by
  obtain ⟨b, o, e2, hc⟩ := h.2 h0
  rw [e2] at e
  injection e with e
  subst e
  exact block_lt_of_cell (hc 0 h0)
/-- The next numbers are written: a row that came in. -/
theorem WrS.callI (h : WrS B w0 g l w) (A : Option Addr) (n c : Nat) (xs : List Int) (hn9 : n ≤ 9) (hx : ∀ x ∈ xs, -9223372036854775808 ≤ x ∧ x ≤ 9223372036854775807) (hl : l.length ≤ 1000) (hi : Ints w A n xs) (hf : 0 < n → ∀ ad, A = some ad → ad.block < g) :
    Calls Try.prog 16 #[.pointer (some ⟨g, 0, none⟩), .slice A n c] w fun e w' => e = .returned (.tuple #[]) ∧ KeptW g w w' ∧ WrS B w0 g (l ++ encs xs) w' := by
  obtain ⟨v, h3, h4⟩ := h.wr
  refine (wrputI_any g A n c xs l v w hi.1 hn9 hx hl h3 h4 (by unfold maxLen; omega) (fun w' hk => ⟨hi.1, fun hn => ?_⟩)).mono fun e w' ⟨he, hb, hw⟩ => ⟨he, hb, h.next hb.old hw⟩
  obtain ⟨b, o, e, hc⟩ := hi.2 hn
  exact ⟨b, o, e, fun k hkn => (hk.old.cell (p := ⟨b, o + k, none⟩) (hf hn ⟨b, o, none⟩ e)).trans (hc k hkn)⟩
end

set_option maxRecDepth 100000 in
set_option maxHeartbeats 1000000 in
theorem putres_any (g : Nat) (qu sr st en va : Int) (ov : Bool) (A : Option Addr) (n c : Nat) (hs : List Int) (hm : ResM qu sr st en va ov hs) (l : List UInt8) (hl : l.length ≤ 100) (w : World) (B : Nat) (w0 : World) (hW : WrS B w0 g l w) (hI : Ints w A n hs) (hf : 0 < n → ∀ ad, A = some ad → ad.block < g) :
    Calls Try.prog 17 #[.pointer (some ⟨g, 0, none⟩), .agg #[.int .i64 qu, .int .i64 sr, .int .i64 st, .int .i64 en, .int .i64 va, .bool ov, .slice A n c]] w fun e w' => e = .returned (.tuple #[]) ∧ KeptW g w w' ∧ WrS B w0 g (l ++ encs ([qu, sr, st, en, va, bitI ov, (n : Int)] ++ hs)) w' := by
  have hlen := hI.1
  have hn9 : n ≤ 9 := by have := hm.2.2.2.2.2.2.1; omega
  have hx1 : ∀ (b : Int), 0 ≤ b → b ≤ 1 → ∀ x ∈ [qu, sr, st, en, va, b, (n : Int)], -9223372036854775808 ≤ x ∧ x ≤ 9223372036854775807 := by
    have h1 := hm.1; have h2 := hm.2.1; have h3 := hm.2.2.1; have h4 := hm.2.2.2.1; have h5 := hm.2.2.2.2.2.2.2.2
    intro b hb0 hb1 x hx
    simp only [List.mem_cons, List.not_mem_nil, or_false] at hx
    omega
  have hx2 : ∀ x ∈ hs, -9223372036854775808 ≤ x ∧ x ≤ 9223372036854775807 := fun x hx => by have := hm.2.2.2.2.2.2.2.1 x hx; omega
  have hgs := hW.gsize
  have X1 := Lib.hid hx1
  have X2 := Lib.hid hx2
  have HI := Lib.hid hI
  have HF := Lib.hid hf
  have HW := Lib.hid hW
  have HL := Lib.hid hl
  clear hx1 hx2 hI hf hW hlen hm hl
  cases ov with
  | true =>
    go_enter Try.func17, Try.ntmps17
    go_wp2_with fail
    have W1 := HW.out.alloc (.cells #[.int .i64 qu, .int .i64 sr, .int .i64 st, .int .i64 en, .int .i64 va, .bool true, .slice A n c] 28)
    have K1 := (KeptW.refl g w).alloc (Nat.le_of_lt hgs) (.cells #[.int .i64 qu, .int .i64 sr, .int .i64 st, .int .i64 en, .int .i64 va, .bool true, .slice A n c] 28)
    have B1 : Has (w.alloc (.cells #[.int .i64 qu, .int .i64 sr, .int .i64 st, .int .i64 en, .int .i64 va, .bool true, .slice A n c] 28)) w.heap.size 28 _ := Has.made w _ _
    have C1 := W1.call [qu, sr, st, en, va, 1, (n : Int)] 7 rfl (by omega) (X1.out 1 (by omega) (by omega)) (by have := HL.out; omega) (w.heap.size + 1) (by simp) #[.int .i64 qu, .int .i64 sr, .int .i64 st, .int .i64 en, .int .i64 va, .int .i64 1, .int .i64 n] rfl
    refine C1.mono ?_; rintro e w2 ⟨rfl, k2, W2⟩
    have K2 := K1.trans k2
    have B2 := k2.keep _ _ _ (by omega) (by decide) B1
    have I2 : Ints w2 A n hs := ⟨HI.out.1, fun hn => by
      obtain ⟨b, o, e, hc⟩ := HI.out.2 hn
      exact ⟨b, o, e, fun k hkn => (K2.old.cell (p := ⟨b, o + k, none⟩) (HF.out (by omega) ⟨b, o, none⟩ e)).trans (hc k hkn)⟩⟩
    have c6 : w2.cell? ⟨w.heap.size, 6, none⟩ = some (.slice A n c) := B2.cell 6
    clear C1 B1 W1 K1 k2 B2
    have HI2 := Lib.hid I2
    clear I2
    go_wp2_with fail
    refine (W2.callI A n c hs hn9 X2.out (by have := HL.out; have := encs_len (X1.out 1 (by omega) (by omega)); simp only [List.length_append, List.length_cons, List.length_nil] at this ⊢; omega) HI2.out HF.out).mono ?_; rintro e w3 ⟨rfl, k3, W3⟩
    have K3 := K2.trans k3
    clear K2 k3 W2 c6
    rw [List.append_assoc, ← encs_append] at W3
    go_wp2_with fail
    exact Great.bodyPost_end0 rfl rfl ⟨rfl, K3, W3⟩
  | false =>
    go_enter Try.func17, Try.ntmps17
    go_wp2_with fail
    have W1 := HW.out.alloc (.cells #[.int .i64 qu, .int .i64 sr, .int .i64 st, .int .i64 en, .int .i64 va, .bool false, .slice A n c] 28)
    have K1 := (KeptW.refl g w).alloc (Nat.le_of_lt hgs) (.cells #[.int .i64 qu, .int .i64 sr, .int .i64 st, .int .i64 en, .int .i64 va, .bool false, .slice A n c] 28)
    have B1 : Has (w.alloc (.cells #[.int .i64 qu, .int .i64 sr, .int .i64 st, .int .i64 en, .int .i64 va, .bool false, .slice A n c] 28)) w.heap.size 28 _ := Has.made w _ _
    have C1 := W1.call [qu, sr, st, en, va, 0, (n : Int)] 7 rfl (by omega) (X1.out 0 (by omega) (by omega)) (by have := HL.out; omega) (w.heap.size + 1) (by simp) #[.int .i64 qu, .int .i64 sr, .int .i64 st, .int .i64 en, .int .i64 va, .int .i64 0, .int .i64 n] rfl
    refine C1.mono ?_; rintro e w2 ⟨rfl, k2, W2⟩
    have K2 := K1.trans k2
    have B2 := k2.keep _ _ _ (by omega) (by decide) B1
    have I2 : Ints w2 A n hs := ⟨HI.out.1, fun hn => by
      obtain ⟨b, o, e, hc⟩ := HI.out.2 hn
      exact ⟨b, o, e, fun k hkn => (K2.old.cell (p := ⟨b, o + k, none⟩) (HF.out (by omega) ⟨b, o, none⟩ e)).trans (hc k hkn)⟩⟩
    have c6 : w2.cell? ⟨w.heap.size, 6, none⟩ = some (.slice A n c) := B2.cell 6
    clear C1 B1 W1 K1 k2 B2
    have HI2 := Lib.hid I2
    clear I2
    go_wp2_with fail
    refine (W2.callI A n c hs hn9 X2.out (by have := HL.out; have := encs_len (X1.out 0 (by omega) (by omega)); simp only [List.length_append, List.length_cons, List.length_nil] at this ⊢; omega) HI2.out HF.out).mono ?_; rintro e w3 ⟨rfl, k3, W3⟩
    have K3 := K2.trans k3
    clear K2 k3 W2 c6
    rw [List.append_assoc, ← encs_append] at W3
    go_wp2_with fail
    exact Great.bodyPost_end0 rfl rfl ⟨rfl, K3, W3⟩

end Go.Proofs.Ytdbcmcdmipehgaa

/-
  Walk: FrameRows: frames one behind the other are read in their row.
-/
import Derived.Test.YtbdlncfdjmgmdaaFrAwake
import Derived.Test.YtbdlncfdjmgmdaaFrBackP
import Derived.Test.YtbdlncfdjmgmdaaFrReg
import Derived.OpenShut
import Derived.Deep.CutBlock
import Derived.Deep.Strs
namespace Go.Proofs.Ytbdlncfdjmgmdaa
open Go.RowKit

/-- The frames of some bodies, one behind the other. -/
def catL : List ByteArray → List UInt8
  | [] => []
  | x :: r => putL x.data.toList ++ catL r
theorem catL_append : ∀ a b : List ByteArray, catL (a ++ b) = catL a ++ catL b
  | [], _ => rfl
  | x :: r, b => by rw [List.cons_append, catL, catL, catL_append r b, List.append_assoc]
def catS (gs : List ByteArray) : ByteArray := ⟨(catL gs).toArray⟩
theorem catS_list (gs : List ByteArray) : (catS gs).data.toList = catL gs := rfl
theorem catS_size (gs : List ByteArray) : (catS gs).size = (catL gs).length := by rw [← size_list, catS_list]
theorem catS_snoc (gs : List ByteArray) (x : ByteArray) : catS gs ++ putS x = catS (gs ++ [x]) := by
  unfold catS putS
  rw [cat_bytes, catL_append, catL, catL, List.append_nil]
theorem catL_len : ∀ gs : List ByteArray, (∀ x ∈ gs, x.size ≤ 60) → (catL gs).length ≤ 64 * gs.length
  | [], _ => by simp [catL]
  | x :: r, h => by
    have h1 := h x List.mem_cons_self
    have h2 := catL_len r (fun y hy => h y (List.mem_cons_of_mem _ hy))
    rw [catL, List.length_append, putL_len, List.length_cons, size_list]
    omega
/-- Where frame n begins. -/
def offN (gs : List ByteArray) (n : Nat) : Nat := (catL (gs.take n)).length
theorem offN_zero (gs : List ByteArray) : offN gs 0 = 0 := rfl
theorem offN_all (gs : List ByteArray) : offN gs gs.length = (catS gs).size := by
  rw [catS_size, offN, List.take_length]
theorem take_succ' {gs : List ByteArray} {n : Nat} (h : n < gs.length) : gs.take (n + 1) = gs.take n ++ [gs[n]] := by
  rw [List.take_add_one, List.getElem?_eq_getElem h]; rfl
theorem offN_succ {gs : List ByteArray} {n : Nat} (h : n < gs.length) : offN gs (n + 1) = offN gs n + (gs[n].size + 4) := by
  unfold offN
  rw [take_succ' h, catL_append, List.length_append, catL, catL, List.append_nil, putL_len, size_list]
theorem offN_le (gs : List ByteArray) (n : Nat) : offN gs n ≤ (catL gs).length := by
  have h : catL gs = catL (gs.take n) ++ catL (gs.drop n) := by rw [← catL_append, List.take_append_drop]
  rw [h, List.length_append]
  exact Nat.le_add_right _ _
theorem offN_at {gs : List ByteArray} {n : Nat} (h : n < gs.length) : (catL gs).drop (offN gs n) = putL gs[n].data.toList ++ catL (gs.drop (n + 1)) := by
  have h1 : catL gs = catL (gs.take n) ++ catL (gs.drop n) := by rw [← catL_append, List.take_append_drop]
  rw [h1, offN, List.drop_left, List.drop_eq_getElem_cons h, catL]
theorem get_row {gs : List ByteArray} (hg : ∀ x ∈ gs, 1 ≤ x.size ∧ x.size ≤ 60) {n : Nat} (h : n < gs.length) : getF (catS gs).data.toList (offN gs n) = (gs[n], ((offN gs (n + 1) : Nat) : Int), 0) := by
  have hx := hg gs[n] (List.getElem_mem h)
  rw [catS_list]
  have h2 := getF_ok (l := catL gs) (a := offN gs n) (offN_le gs n) (by rw [offN_at h]; exact getL_put (by rw [size_list]; omega) (by rw [size_list]; omega) _)
  rw [h2, bytes_of, offN_succ h, size_list]
  simp

/-- A row of texts that the call owns. -/
def OwnX (w : World) (base : Nat) (v : Value) (gs : List ByteArray) : Prop := w.ownsRow base 9 1 v gs.length (gs.map Value.string)
theorem OwnX.below {w w' : World} {base : Nat} {v : Value} {l : List ByteArray} (h : OwnX w base v l) (hb : Below w.heap.size w w') : OwnX w' base v l :=
  World.ownsRow.kept h (row := none) ⟨hb.os, hb.tape, hb.output, hb.size, fun k hk _ => hb.block k hk⟩ (by
    cases e : v.ownBlock with
    | none => exact .inl rfl
    | some k => exact .inr (by simp))
theorem OwnX.nil (w : World) (base : Nat) : OwnX w base (.slice none 0 0) [] := World.ownsRow_nil _ _ _ _
theorem OwnX.at {w : World} {base : Nat} {v : Value} {gs : List ByteArray} (h : OwnX w base v gs) {n : Nat} (hn : n < gs.length) :
    ∃ g c, v = .slice (some ⟨g, 0, none⟩) gs.length c ∧ w.cell? ⟨g, n, none⟩ = some (.string gs[n]) := by
  rcases h.2 with ⟨_, h0⟩ | ⟨g, cap, cur, e, _⟩
  · omega
  · refine ⟨g, cap, e, ?_⟩
    rw [e] at h
    rw [World.ownsRow.cellAt h n (by omega)]
    simp [hn]
theorem OwnX.form {w : World} {base : Nat} {v : Value} {gs : List ByteArray} (h : OwnX w base v gs) : ∃ A c, v = .slice A gs.length c := by
  rcases h.2 with ⟨e, h0⟩ | ⟨g, cap, cur, e, _⟩
  · exact ⟨none, 0, by rw [e, h0]⟩
  · exact ⟨some ⟨g, 0, none⟩, cap, e⟩

/-- 's = append(s, t)' in a walk, t a text that lies in a new row. -/
theorem app_text {ops : Array Oper} {rest : List Oper} {op : Oper} {p : Act} {w : World} {Q : Exit → Act → World → Prop} (hgd : op.guard = none) (s x : Operand)
    (ho : op.op = .call { callee := .builtin .append, args := #[s, x], argTypes := #[38, 38] })
    {base g : Nat} {v : Value} {l : List ByteArray} {t : ByteArray} (hs : p.eval s = v) (hown : OwnX w base v l) (hx : p.eval x = .slice (some ⟨g, 0, none⟩) 1 1) (hg : w.cell? ⟨g, 0, none⟩ = some (.string t))
    (hn : l.length ≤ 8192) (hbase : base ≤ w.heap.size)
    (h : ∀ A c w', OwnX w' base (.slice A (l.length + 1) c) (l ++ [t]) → Below base w w' → wpList Try.prog ops Q rest (p.put op.dst (.slice A (l.length + 1) c)) w') : wpList Try.prog ops Q (op :: rest) p w := by
  obtain ⟨i0, hi, hz, hs0, hy0⟩ := info_parts Try.vinfoStr
  refine wpList_append_own w hgd s x 38 ho base 9 i0 _ 1 16 Try.underlying38 hi hz hs0 hy0 rfl (by omega) v l.length (l.map Value.string) hs hown ⟨g, 0, none⟩ 1 1 [.string t] hx rfl
    (fun j u hu => ?_) (fun u hu => ?_) (by unfold maxLen; omega) (by omega) hbase (fun v' w' h1 h2 _ => ?_)
  · cases j with
    | zero => rw [Addr.add_mid]; simp at hu; rw [← hu]; exact hg
    | succ j => simp at hu
  · obtain rfl : u = .string t := by simpa using hu
    rfl
  · have h3 : OwnX w' base v' (l ++ [t]) := by unfold OwnX; simpa using h1
    obtain ⟨A, c, rfl⟩ := h3.form
    have e : (l ++ [t]).length = l.length + 1 := by simp
    rw [e] at h3 ⊢
    refine h A c w' h3 ⟨h2.os, h2.tape, h2.output, h2.size, fun k hk => h2.block k (by omega) (fun e => ?_)⟩
    have := World.ownsRow.lt hown k e.symm
    omega

/-- Texts that came in. -/
def Texts (w : World) (A : Option Addr) (n : Nat) (Sx : Nat → ByteArray) : Prop := 0 < n → ∃ b o, A = some ⟨b, o, none⟩ ∧ ∀ i, i < n → w.cell? ⟨b, o + i, none⟩ = some (.string (Sx i))
theorem Texts.below {w w' : World} {A : Option Addr} {n : Nat} {Sx : Nat → ByteArray} (h : Texts w A n Sx) (hb : Below w.heap.size w w') : Texts w' A n Sx := fun hn => by
  obtain ⟨b, o, e, hc⟩ := h hn
  exact ⟨b, o, e, fun i hi => (hb.cell (lt_of_cell (hc i hi))).trans (hc i hi)⟩

set_option maxRecDepth 100000 in
set_option maxHeartbeats 400000 in
theorem rows8_any (A0 : Option Addr) (n0 c0 : Nat) (Sx : Nat → ByteArray) (w : World) (hT : Texts w A0 n0 Sx) (hn0 : n0 ≤ maxLen) :
    Calls Try.prog 6 #[.slice A0 n0 c0] w fun e w' => e = .returned (.bool true) ∧ Below w.heap.size w w' := by
  have HA := Lib.hid (fun w : World => awake_any w)
  unfold maxLen at hn0
  have HT := Lib.hid hT
  clear hT
  go_enter Try.func6, Try.ntmps6
  go_wp2_with fail
  refine (HA.out _).mono ?_; rintro e w1 ⟨rfl, b1⟩
  go_wp2_with fail
  go_loopw [3, 4, 5] (fun s v i wr => ∃ (n : Nat) (gs : List ByteArray) (A : Option Addr) (c : Nat), n ≤ 20 ∧ n ≤ n0 ∧ gs.length ≤ n ∧ i = .int .i64 n ∧ s = .string (catS gs) ∧ v = .slice A gs.length c ∧ Hid (OwnX wr w.heap.size (.slice A gs.length c) gs) ∧ Hid (∀ x ∈ gs, 1 ≤ x.size ∧ x.size ≤ 60) ∧ Below w.heap.size w wr) (fun _ _ i _ => 20 - (intOf i).toNat)
  case atStart => exact ⟨0, [], none, 0, by omega, by omega, by simp, rfl, rfl, rfl, Lib.hid (OwnX.nil _ _), Lib.hid (by simp), b1⟩
  case round =>
    clear b1 HA
    obtain ⟨n, gs, A, c, hn, hnn, hgn, rfl, rfl, rfl, HO, HG, bn⟩ := hrel
    have hcs : (catS gs).size ≤ 1280 := by
      have := catL_len gs (fun x hx => (HG.out x hx).2)
      rw [catS_size]
      omega
    by_cases hlt : n < n0 ∧ n < 20
    · have hlt1 := hlt.1
      have hlt2 := hlt.2
      clear hlt
      obtain ⟨b, o, rfl, hc⟩ := HT.out (by omega)
      have hld := (bn.cell (lt_of_cell (hc n hlt1))).trans (hc n hlt1)
      have q1 : decide ((n : Int) < (n0 : Int)) = true := by simp; omega
      have q2 : (n : Int) < 20 := by omega
      have hlen : (n : Int) < (n0 : Int) := by omega
      generalize Sx n = x at hld
      clear hc
      by_cases hx : x.size < 1 ∨ 60 < x.size
      · have HP := Lib.hid (fun w : World => put_pair x _ _ (putP_bad hx) w)
        by_cases hx1 : x.size < 1
        · have r1 : decide (1 ≤ (x.size : Int)) = false := by simp; omega
          clear hx
          go_wp2_with fail
          refine (HP.out _).mono ?_; rintro e w2 ⟨rfl, b2⟩
          have hld2 := (b2.cell (lt_of_cell hld)).trans hld
          have HO2 := Lib.hid (HO.out.below b2)
          have bn2 := bn.trans (b2.mono bn.size)
          clear HO HP bn b2 hld
          go_wp2_with (go_at_call 12; refine (num_any _ _).mono ?_; rintro e w' ⟨rfl, rfl⟩)
          go_roundw
          case rel => exact ⟨n + 1, gs, A, c, by omega, by omega, by omega, by go_num, rfl, rfl, HO2, HG, bn2⟩
          case measure => simp [intOf]; omega
        · have r1 : decide (1 ≤ (x.size : Int)) = true := by simp; omega
          have r2 : decide ((x.size : Int) ≤ 60) = false := by simp; omega
          have r2' : decide (x.size ≤ 60) = false := by simp; omega
          clear hx
          go_wp2_with fail
          refine (HP.out _).mono ?_; rintro e w2 ⟨rfl, b2⟩
          have hld2 := (b2.cell (lt_of_cell hld)).trans hld
          have HO2 := Lib.hid (HO.out.below b2)
          have bn2 := bn.trans (b2.mono bn.size)
          clear HO HP bn b2 hld
          go_wp2_with (go_at_call 12; refine (num_any _ _).mono ?_; rintro e w' ⟨rfl, rfl⟩)
          go_roundw
          case rel => exact ⟨n + 1, gs, A, c, by omega, by omega, by omega, by go_num, rfl, rfl, HO2, HG, bn2⟩
          case measure => simp [intOf]; omega
      · have HP := Lib.hid (fun w : World => put_pair x _ _ (putP_ok hx) w)
        have hps : (putS x).size ≤ 64 := by rw [putS_size]; omega
        have hcat := catS_snoc gs x
        have HG2 : Hid (∀ y ∈ gs ++ [x], 1 ≤ y.size ∧ y.size ≤ 60) := Lib.hid (fun y hy => by
          rcases List.mem_append.1 hy with h | h
          · exact HG.out y h
          · obtain rfl : y = x := by simpa using h
            omega)
        clear hx HG
        generalize putS x = f at HP hps hcat
        go_wp2_with fail
        refine (HP.out _).mono ?_; rintro e w2 ⟨rfl, b2⟩
        have hld2 := (b2.cell (lt_of_cell hld)).trans hld
        have bn2 := bn.trans (b2.mono bn.size)
        have HO2 := Lib.hid (fun ob : Obj => (HO.out.below b2).below ((Below.refl w2.heap.size w2).alloc (Nat.le_refl _) ob))
        have hz2 := bn2.size
        clear HO HP bn b2 hld
        go_wp2_with (first
          | (go_at_call 12; refine (num_any _ _).mono ?_; rintro e w' ⟨rfl, rfl⟩)
          | (refine app_text (t := x) rfl _ _ rfl rfl (HO2.out _) rfl (by simp [go_sem]) (by omega) (by simp; omega) (fun A' c' w3 ho3 hb3 => ?_)))
        go_roundw
        case rel => exact ⟨n + 1, gs ++ [x], A', c', by omega, by omega, by simp; omega, by go_num, rfl, by simp, Lib.hid (by simpa using ho3), HG2, (bn2.alloc hz2 _).trans hb3⟩
        case measure => simp [intOf]; omega
    · by_cases hq : n < n0
      · have q1 : decide ((n : Int) < (n0 : Int)) = true := by simp; omega
        have q2 : decide ((n : Int) < 20) = false := by simp; omega
        have q1' : decide (n < n0) = true := by simp; omega
        have q2' : decide (n < 20) = false := by simp; omega
        clear hlt hq
        go_wp2_with fail
        go_loopw [8, 9] (fun y i ws => ∃ k : Nat, k ≤ gs.length ∧ i = .int .i64 k ∧ y = .int .i64 (offN gs k) ∧ Hid (OwnX ws w.heap.size (.slice A gs.length c) gs) ∧ Below w.heap.size w ws) (fun _ i _ => gs.length - (intOf i).toNat)
        case atStart => exact ⟨0, by omega, rfl, rfl, HO, bn⟩
        case round =>
          clear HO bn
          obtain ⟨k, hk, rfl, rfl, HO, bn⟩ := hrel
          by_cases hkl : k < gs.length
          · obtain ⟨g, c2, e, hld⟩ := HO.out.at hkl
            injection e with e1 _ e3
            subst e1; subst e3
            have HGt := Lib.hid (fun w : World => get_tri (catS gs) _ _ _ _ (get_row HG.out hkl) (by omega) w)
            have hoff := offN_le gs (k + 1)
            rw [← catS_size] at hoff
            obtain ⟨z, hz⟩ : ∃ z, offN gs (k + 1) = z := ⟨_, rfl⟩
            rw [hz] at HGt hoff
            have HZ := Lib.hid hz
            clear hz
            generalize gs[k] = x at HGt hld
            have hkl' : (k : Int) < (gs.length : Int) := by omega
            go_wp2_with fail
            refine (HGt.out _).mono ?_; rintro e w2 ⟨rfl, b2⟩
            have hld2 := (b2.cell (lt_of_cell hld)).trans hld
            have HO2 := Lib.hid (HO.out.below b2)
            have bn2 := bn.trans (b2.mono bn.size)
            clear HO bn b2 hld HGt
            go_wp2_with (go_at_call 12; refine (num_any _ _).mono ?_; rintro e w' ⟨rfl, rfl⟩)
            exact ⟨⟨k + 1, by omega, by go_num, by rw [HZ.out], HO2, bn2⟩, by simp [intOf]; omega⟩
          · obtain rfl : k = gs.length := by omega
            have hend : ((offN gs gs.length : Nat) : Int) = ((catS gs).size : Int) := by rw [offN_all]
            clear HG
            go_wp2_with fail
            go_ret
            exact ⟨rfl, bn⟩
      · have q1 : decide ((n : Int) < (n0 : Int)) = false := by simp; omega
        have q1' : decide (n < n0) = false := by simp; omega
        clear hlt hq
        go_wp2_with fail
        go_loopw [8, 9] (fun y i ws => ∃ k : Nat, k ≤ gs.length ∧ i = .int .i64 k ∧ y = .int .i64 (offN gs k) ∧ Hid (OwnX ws w.heap.size (.slice A gs.length c) gs) ∧ Below w.heap.size w ws) (fun _ i _ => gs.length - (intOf i).toNat)
        case atStart => exact ⟨0, by omega, rfl, rfl, HO, bn⟩
        case round =>
          clear HO bn
          obtain ⟨k, hk, rfl, rfl, HO, bn⟩ := hrel
          by_cases hkl : k < gs.length
          · obtain ⟨g, c2, e, hld⟩ := HO.out.at hkl
            injection e with e1 _ e3
            subst e1; subst e3
            have HGt := Lib.hid (fun w : World => get_tri (catS gs) _ _ _ _ (get_row HG.out hkl) (by omega) w)
            have hoff := offN_le gs (k + 1)
            rw [← catS_size] at hoff
            obtain ⟨z, hz⟩ : ∃ z, offN gs (k + 1) = z := ⟨_, rfl⟩
            rw [hz] at HGt hoff
            have HZ := Lib.hid hz
            clear hz
            generalize gs[k] = x at HGt hld
            have hkl' : (k : Int) < (gs.length : Int) := by omega
            go_wp2_with fail
            refine (HGt.out _).mono ?_; rintro e w2 ⟨rfl, b2⟩
            have hld2 := (b2.cell (lt_of_cell hld)).trans hld
            have HO2 := Lib.hid (HO.out.below b2)
            have bn2 := bn.trans (b2.mono bn.size)
            clear HO bn b2 hld HGt
            go_wp2_with (go_at_call 12; refine (num_any _ _).mono ?_; rintro e w' ⟨rfl, rfl⟩)
            exact ⟨⟨k + 1, by omega, by go_num, by rw [HZ.out], HO2, bn2⟩, by simp [intOf]; omega⟩
          · obtain rfl : k = gs.length := by omega
            have hend : ((offN gs gs.length : Nat) : Int) = ((catS gs).size : Int) := by rw [offN_all]
            clear HG
            go_wp2_with fail
            go_ret
            exact ⟨rfl, bn⟩

end Go.Proofs.Ytbdlncfdjmgmdaa

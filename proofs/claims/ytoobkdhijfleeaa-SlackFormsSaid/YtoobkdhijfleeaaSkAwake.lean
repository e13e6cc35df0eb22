/-
  Walk: the slack's first look.
-/
import Derived.Test.YtoobkdhijfleeaaSkSeen
namespace Go.Proofs.Ytoobkdhijfleeaa
open Go.RowKit

/-- A slack that was made since w0; nothing that was there then was turned. -/
structure SlK (w0 : World) (g : Nat) (L T K : Int) (w : World) : Prop where
  st : Has w g 43 (slC L T K)
  keep : Below w0.heap.size w0 w
  far : w0.heap.size ≤ g
section
variable {w0 w w' : World} {g : Nat} {L T K : Int}
theorem SlK.mono (h : SlK w0 g L T K w) (hb : Below w.heap.size w w') : SlK w0 g L T K w' := ⟨h.st.below hb h.st.lt, h.keep.trans (hb.mono h.keep.size), h.far⟩
theorem SlK.wrote {T' K' : Int} (h : SlK w0 g L T K w) (hw : Wrote 43 g (slC L T' K') w w') : SlK w0 g L T' K' w' :=
  ⟨hw.st, hw.but.below h.keep h.keep.size (fun k hk => by rw [List.mem_singleton.1 hk]; exact h.far), h.far⟩
theorem SlK.made (h : MadeS 43 g (slC L T K) w w') (hb : Below w0.heap.size w0 w) : SlK w0 g L T K w' := ⟨h.st, hb.trans (h.keep.mono hb.size), Nat.le_trans hb.size h.new⟩
end
theorem see_val (w0 : World) (g : Nat) (L T K t N T' K' : Int) (w : World) (h : SlK w0 g L T K w) (hT : -1099511627776 ≤ T ∧ T ≤ 1099511627776) (hN : seeN t = N) (hT' : seeT T t = T') (hK' : seeK L T K t = K') :
    Calls Try.prog 12 #[.pointer (some ⟨g, 0, none⟩), .int .i64 t] w fun e w' => e = .returned (.int .i64 N) ∧ SlK w0 g L T' K' w' := by
  subst hN hT' hK'
  refine (see_any g L T K t w h.st hT).mono ?_
  rintro e w' ⟨rfl, h1⟩
  exact ⟨rfl, h.wrote h1⟩
theorem rsee_val (y : Nat) (L M K t N M' K' : Int) (b b' : Bool) (w : World) (h : Has w y 37 (srC L b M K)) (hM : -1099511627776 ≤ M ∧ M ≤ 1099511627776) (hN : seeN t = N) (hb : seeB b t = b') (hm : seeM b M t = M') (hK : seeR L b M K t = K') :
    Calls Try.prog 13 #[.pointer (some ⟨y, 0, none⟩), .int .i64 t] w fun e w' => e = .returned (.int .i64 N) ∧ Wrote 37 y (srC L b' M' K') w w' := by
  subst hN hb hm hK
  exact rsee_any y L M K t b w h hM
theorem line_val (m L N : Int) (w : World) (h : lineN m L = N) :
    Calls Try.prog 8 #[.int .i64 m, .int .i64 L] w fun e w' => e = .returned (.int .i64 N) ∧ w = w' := by
  subst h
  exact line_any m L w

set_option maxRecDepth 100000 in
set_option maxHeartbeats 2000000 in
theorem slawake_any (w : World) :
    Calls Try.prog 11 #[] w fun e w' => e = .returned (.bool true) ∧ Below w.heap.size w w' := by
  have HN := Lib.hid (slnew_ok 10 w (by decide))
  go_enter Try.func11, Try.ntmps11
  go_wp2_with fail
  refine (HN.out).mono ?_; rintro e w1 ⟨g, rfl, h1⟩
  have H1 := Lib.hid (SlK.made (w0 := w) h1 (Below.refl _ _))
  clear h1 HN
  go_wp2_with fail
  refine (slnew_no (-1) _ (by decide)).mono ?_; rintro e w2 ⟨rfl, rfl⟩
  go_wp2_with (go_at_call 10; refine (gnum_any _ _).mono ?_; rintro e w' ⟨rfl, rfl⟩)
  refine (see_val w g 10 _ 0 100 0 100 0 _ H1.out (by decide) (by decide) (by decide) (by decide)).mono ?_; rintro e w2 ⟨rfl, h2⟩
  have H2 := Lib.hid h2
  clear h2 H1
  go_wp2_with fail
  refine (see_val w g 10 100 0 97 0 100 3 _ H2.out (by decide) (by decide) (by decide) (by decide)).mono ?_; rintro e w3 ⟨rfl, h3⟩
  have H3 := Lib.hid h3
  clear h3 H2
  go_wp2_with fail
  refine (k_any g 10 100 3 _ H3.out.st).mono ?_; rintro e w' ⟨rfl, rfl⟩
  go_wp2_with fail
  refine (see_val w g 10 100 3 120 0 120 3 _ H3.out (by decide) (by decide) (by decide) (by decide)).mono ?_; rintro e w4 ⟨rfl, h4⟩
  have H4 := Lib.hid h4
  clear h4 H3
  go_wp2_with fail
  refine (see_val w g 10 120 3 3 0 120 10 _ H4.out (by decide) (by decide) (by decide) (by decide)).mono ?_; rintro e w5 ⟨rfl, h5⟩
  have H5 := Lib.hid h5
  clear h5 H4
  go_wp2_with fail
  refine (see_val w g 10 120 10 1099511627777 1600 120 10 _ H5.out (by decide) (by decide) (by decide) (by decide)).mono ?_; rintro e w6 ⟨rfl, h6⟩
  have H6 := Lib.hid h6
  clear h6 H5
  go_wp2_with (go_at_call 10; refine (gnum_any _ _).mono ?_; rintro e w' ⟨rfl, rfl⟩)
  refine (k_any g 10 120 10 _ H6.out.st).mono ?_; rintro e w' ⟨rfl, rfl⟩
  go_wp2_with fail
  refine (line_val 7 9 (-2) _ (by decide)).mono ?_; rintro e w' ⟨rfl, rfl⟩
  go_wp2_with fail
  refine (line_val (-4398046511104) 9 (-4398046511104) _ (by decide)).mono ?_; rintro e w' ⟨rfl, rfl⟩
  go_wp2_with fail
  go_ret
  exact ⟨rfl, H6.out.keep⟩

end Go.Proofs.Ytoobkdhijfleeaa

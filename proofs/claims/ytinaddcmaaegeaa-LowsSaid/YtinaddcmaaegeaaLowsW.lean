/-
  Walk: Lows: any query, any aggregate: what the program tells is what the document tells; what is handed in stays.
-/
import Derived.Test.YtinaddcmaaegeaaRValA
import Derived.Test.YtinaddcmaaegeaaRValB
import Derived.Test.YtinaddcmaaegeaaCopyA
import Derived.Test.YtinaddcmaaegeaaAwake2
import Derived.Test.YtinaddcmaaegeaaOver
namespace Go.Proofs.Ytinaddcmaaegeaa
open Go.RowKit

/-- The call hands out what is told, with a code. -/
def LoOut (v : Int) (o : Bool) (hs : List Int) (code : Int) (w : World) (e : Ending) (w' : World) : Prop :=
  ∃ A n c, e = .returned (.tuple #[.agg (outC v o A n c), .int .i64 code]) ∧ Ints w' A n hs ∧ n ≤ c ∧ c ≤ maxLen ∧ OwnI w' w.heap.size (.slice A n c) hs ∧ Below w.heap.size w w'
theorem lo_of_no {w : World} {e : Ending} {w' : World} (h : NoOut w e w') : LoOut 0 false [] 200 w e w' := ⟨none, 0, 0, h.1, Ints.nil, Nat.le_refl _, Nat.zero_le _, OwnI.nil _ _, h.2⟩
theorem rvalue_all (q : Qu) (B : Option Addr) (m d : Nat) (a : Ac) (A : Option Addr) (k c : Nat) (w : World) (hbs : Ints w B m q.bs) (hm : m ≤ maxLen) (ha : Ints w A k a.h) (hk : k ≤ maxLen) (hg : wi q.agg 0 7 = true) (hok : askB q a = true) :
    Calls Try.prog 35 #[.agg (quC q B m d), .agg (accC a A k c)] w (OkOut (tellV q a) (tellO q a) (tellH q a) w) := by
  obtain ⟨g1, g2⟩ := wi_true hg
  have h8 : q.agg = 0 ∨ q.agg = 1 ∨ q.agg = 2 ∨ q.agg = 3 ∨ q.agg = 4 ∨ q.agg = 5 ∨ q.agg = 6 ∨ q.agg = 7 := by omega
  rcases h8 with h | h | h | h | h | h | h | h
  · exact rvalue_ok0 q B m d a A k c w hbs hm ha hk h hok
  · cases hv : wi a.s (-1125899906842624) 1125899906842624
    · exact rvalue_ok11 q B m d a A k c w hbs hm ha hk h hok hv
    · exact rvalue_ok1 q B m d a A k c w hbs hm ha hk h hok hv
  · exact rvalue_ok2 q B m d a A k c w hbs hm ha hk h hok
  · exact rvalue_ok3 q B m d a A k c w hbs hm ha hk h hok
  · exact rvalue_ok4 q B m d a A k c w hbs hm ha hk h hok
  · exact rvalue_ok5 q B m d a A k c w hbs hm ha hk h hok
  · exact rvalue_ok6 q B m d a A k c w hbs hm ha hk h hok
  · exact rvalue_ok7 q B m d a A k c w hbs hm ha hk h hok
/-- Both tell the same. -/
theorem both_tell (q : Qu) (B : Option Addr) (m d : Nat) (a : Ac) (k : Nat) (hm : m ≤ maxLen) (hk : k ≤ maxLen) : ∃ (V : Int) (O : Bool) (HS : List Int) (code : Int),
    (∀ W A c, Ints W B m q.bs → Ints W A k a.h → Calls Try.prog 34 #[.agg (quC q B m d), .agg (accC a A k c)] W (LoOut V O HS code W)) ∧
    (∀ W A c, Ints W B m q.bs → Ints W A k a.h → Calls Try.prog 35 #[.agg (quC q B m d), .agg (accC a A k c)] W (LoOut V O HS code W)) := by
  cases h : (wi q.agg 0 7 && askB q a)
  · exact ⟨0, false, [], 200, fun W A c h1 h2 => (value_bad q B m d a A k c W h1 hm h2 hk h).mono fun _ _ hh => lo_of_no hh, fun W A c h1 h2 => (rvalue_bad q B m d a A k c W h1 hm h2 hk h).mono fun _ _ hh => lo_of_no hh⟩
  · simp only [Bool.and_eq_true] at h
    exact ⟨_, _, _, 0, fun W A c h1 h2 => value_all q B m d a A k c W h1 hm h2 hk h.1 h.2, fun W A c h1 h2 => rvalue_all q B m d a A k c W h1 hm h2 hk h.1 h.2⟩

/-- Query and aggregate that came in, each in a variable. -/
structure LoS (w : World) (q : Qu) (B : Option Addr) (m d : Nat) (a : Ac) (A : Option Addr) (k c : Nat) (wr : World) : Prop where
  qu : Has wr w.heap.size 53 (quC q B m d)
  ac : Has wr (w.heap.size + 1) 29 (accC a A k c)
  bs : Ints wr B m q.bs
  hs : Ints wr A k a.h
  keep : Below w.heap.size w wr
theorem LoS.below {w : World} {q : Qu} {B : Option Addr} {m d : Nat} {a : Ac} {A : Option Addr} {k c : Nat} {wr wy : World} (h : LoS w q B m d a A k c wr) (hb : Below wr.heap.size wr wy) : LoS w q B m d a A k c wy :=
  ⟨h.qu.below hb h.qu.lt, h.ac.below hb h.ac.lt, h.bs.below hb, h.hs.below hb, h.keep.trans (hb.mono h.keep.size)⟩

set_option maxRecDepth 100000 in
set_option maxHeartbeats 4000000 in
theorem lows_any (q : Qu) (B : Option Addr) (m d : Nat) (a : Ac) (A : Option Addr) (k c : Nat) (w : World) (hbs : Ints w B m q.bs) (hm : m ≤ maxLen) (ha : Ints w A k a.h) (hk : k * 8 ≤ 140737488351232) (hnil : A = none → c = 0) :
    Calls Try.prog 10 #[.agg (quC q B m d), .agg (accC a A k c)] w fun e w' => e = .returned (.bool true) ∧ Below w.heap.size w w' := by
  have hk63 : k ≤ maxLen := by unfold maxLen; omega
  obtain ⟨V, O, HS, code, cP, cR⟩ := both_tell q B m d a k hm hk63
  have CP := Lib.hid cP; clear cP
  have CR := Lib.hid cR; clear cR
  have hL0 : LoS w q B m d a A k c ((w.alloc (.cells (quC q B m d) 53)).alloc (.cells (accC a A k c) 29)) := by
    have hb : Below w.heap.size w ((w.alloc (.cells (quC q B m d) 53)).alloc (.cells (accC a A k c) 29)) := below_alloc ((Below.refl _ _).alloc (Nat.le_refl _) _) (Nat.le_refl _) _
    exact ⟨heap_alloc2_old _ _ _, heap_alloc2_new _ _ _, hbs.below hb, ha.below hb, hb⟩
  have HL := Lib.hid hL0; clear hL0 hbs ha
  go_enter Try.func10, Try.ntmps10
  go_upto_region 1 with fail
  generalize (w.alloc (.cells (quC q B m d) 53)).alloc (.cells (accC a A k c) 29) = w1 at HL ⊢
  go_wp2_with (refine load_acG _ rfl rfl _ rfl HL.out.ac ?_)
  refine (copyacc_any a A k c _ HL.out.hs hk hnil).mono ?_
  rintro e w2 ⟨A2, k2, c2, rfl, hin, hb⟩
  obtain rfl : k2 = k := hin.hist.1.symm.trans HL.out.hs.1
  replace HL := Lib.hid (HL.out.below hb)
  clear hb
  go_upto_region 2 with (refine store_new rfl _ _ rfl rfl rfl rfl ?_; intro wn hbn hvn)
  replace HL := Lib.hid (HL.out.below hbn)
  have VX : Hid (Vg wn w2.heap.size a A2 k2 c2) := ⟨hvn, hin.hist.below hbn, hin.cap, hin.most⟩
  generalize w2.heap.size = gx at VX ⊢
  clear hbn hvn hin
  go_wp2_with (first | (refine load_quG _ rfl rfl _ rfl HL.out.qu ?_) | (refine load_acG _ rfl rfl _ rfl VX.out.cells ?_))
  refine (CP.out _ A2 c2 HL.out.bs VX.out.hist).mono ?_
  clear CP
  rintro e w3 ⟨AO, nO, cO, rfl, hIO, hcap, hmost, hown, hb⟩
  have HK := Lib.hid hb
  have hOwn := Lib.hid hown
  clear hb hown hcap hmost
  go_upto_region 3 with (refine store_newO rfl _ _ rfl rfl rfl rfl ?_; intro wo hbn hvn)
  have VO : Hid (Vo wo w3.heap.size V O HS AO nO cO) := ⟨hvn, hIO.below hbn⟩
  replace hOwn := Lib.hid (hOwn.out.below hbn)
  replace HK := Lib.hid (HK.out.trans (hbn.mono HK.out.size))
  generalize w3.heap.size = go at VO ⊢
  clear hbn hvn hIO
  have HLo := Lib.hid (HL.out.below HK.out)
  go_wp2_with (first | (refine load_quG _ rfl rfl _ rfl HLo.out.qu ?_) | (refine load_acG _ rfl rfl _ rfl HLo.out.ac ?_))
  refine (CR.out _ A c HLo.out.bs HLo.out.hs).mono ?_
  clear CR HLo
  rintro e w4 ⟨AP, nP, cP, rfl, hIP, hcap, hmost, hown, hb⟩
  replace VO := Lib.hid (VO.out.below hb)
  replace hOwn := Lib.hid (hOwn.out.below hb)
  replace HK := Lib.hid (HK.out.trans (hb.mono HK.out.size))
  obtain rfl : nP = nO := hIP.1.symm.trans VO.out.hist.1
  clear hb hown hcap hmost
  go_upto_region 4 with (refine store_newO rfl _ _ rfl rfl rfl rfl ?_; intro wp hbn hvn)
  have VP : Hid (Vo wp w4.heap.size V O HS AP nP cP) := ⟨hvn, hIP.below hbn⟩
  replace VO := Lib.hid (VO.out.below hbn)
  replace hOwn := Lib.hid (hOwn.out.below hbn)
  replace HK := Lib.hid (HK.out.trans (hbn.mono HK.out.size))
  generalize w4.heap.size = gp at VP ⊢
  clear hbn hvn hIP
  have hnl : nP ≤ maxLen := by
    obtain ⟨_, c9, e3, h3, h4, _⟩ := hOwn.out.form
    injection e3 with e4 e5 e6
    omega
  go_wp2_with (first | (refine load_outG rfl _ rfl _ rfl VO.out.cells ?_) | (refine load_outG rfl _ rfl _ rfl VP.out.cells ?_))
  refine (sameOut_true V O HS AO AP nP cO cP _ VO.out.hist VP.out.hist hnl).mono ?_
  rintro e w5 ⟨rfl, hb⟩
  replace VO := Lib.hid (VO.out.below hb)
  replace hOwn := Lib.hid (hOwn.out.below hb)
  replace HK := Lib.hid (HK.out.trans (hb.mono HK.out.size))
  clear hb VP
  have cO2 : w5.cell? ⟨go, 2, none⟩ = some (.slice AO nP cO) := VO.out.cells.cell 2
  go_wp2_with (go_at_call 23; refine (num_any _ _).mono ?_; rintro e w' ⟨rfl, rfl⟩)
  refine (spoil_any AO nP cO HS _ _ hOwn.out hnl).mono ?_
  rintro e w6 ⟨rfl, hb⟩
  replace HK := Lib.hid (HK.out.trans hb)
  clear hb cO2 VO hOwn
  have HLe := Lib.hid (HL.out.below HK.out)
  have VXe := Lib.hid (VX.out.below HK.out)
  clear HL VX HK
  go_wp2_with (first | (refine load_acG _ rfl rfl _ rfl VXe.out.cells ?_) | (refine load_acG _ rfl rfl _ rfl HLe.out.ac ?_))
  refine (sameAcc_true a A2 A k2 c2 c _ VXe.out.hist HLe.out.hs hk63).mono ?_
  rintro e w7 ⟨rfl, hb⟩
  have HE := Lib.hid (HLe.out.keep.trans (hb.mono HLe.out.keep.size))
  clear hb HLe VXe
  go_wp2_with fail
  refine (awake2_any _).mono ?_
  rintro e w8 ⟨rfl, hb⟩
  replace HE := Lib.hid (HE.out.trans (hb.mono HE.out.size))
  clear hb
  go_wp2
  go_ret
  exact ⟨rfl, HE.out⟩

end Go.Proofs.Ytinaddcmaaegeaa

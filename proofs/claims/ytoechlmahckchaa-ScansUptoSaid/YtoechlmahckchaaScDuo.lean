/-
  Two scanners' memory.
-/
import Derived.Test.YtoechlmahckchaaScTwoL
import Derived.Test.YtoechlmahckchaaScAwake
namespace Go.Proofs.Ytoechlmahckchaa
open Go.RowKit

structure DuoS (w0 : World) (x : Nat) (X : TypeId) (lx : List UInt8) (bx : Nat) (y : Nat) (Y : TypeId) (ly : List UInt8) (bY : Nat) (w : World) : Prop where
  keep : Below w0.heap.size w0 w
  sz : w0.heap.size ≤ w.heap.size
  sx : Has w x X (scC lx bx)
  sy : Has w y Y (scC ly bY)
  ne : x ≠ y
  nx : w0.heap.size ≤ x
  ny : w0.heap.size ≤ y
section
variable {w0 : World} {x : Nat} {X : TypeId} {lx : List UInt8} {bx : Nat} {y : Nat} {Y : TypeId} {ly : List UInt8} {bY : Nat} {w w' : World}
theorem DuoS.below (h : DuoS w0 x X lx bx y Y ly bY w) (hb : Below w.heap.size w w') : DuoS w0 x X lx bx y Y ly bY w' :=
  ⟨h.keep.trans (hb.mono h.sz), Nat.le_trans h.sz hb.size, h.sx.below hb h.sx.lt, h.sy.below hb h.sy.lt, h.ne, h.nx, h.ny⟩
theorem DuoS.wroteX (h : DuoS w0 x X lx bx y Y ly bY w) {l : List UInt8} {b : Nat} (hs : Has w' x X (scC l b)) (hg : w.grownBy w' (some x)) : DuoS w0 x X l b y Y ly bY w' :=
  ⟨below_wrote h.keep hg h.sz (fun k hk => by injection hk with hk; subst hk; exact h.nx), Nat.le_trans h.sz hg.size, hs, h.sy.grow hg (fun e => h.ne (by injection e)), h.ne, h.nx, h.ny⟩
theorem DuoS.wroteY (h : DuoS w0 x X lx bx y Y ly bY w) {l : List UInt8} {b : Nat} (hs : Has w' y Y (scC l b)) (hg : w.grownBy w' (some y)) : DuoS w0 x X lx bx y Y l b w' :=
  ⟨below_wrote h.keep hg h.sz (fun k hk => by injection hk with hk; subst hk; exact h.ny), Nat.le_trans h.sz hg.size, h.sx.grow hg (fun e => h.ne (by injection e with e; exact e.symm)), hs, h.ne, h.nx, h.ny⟩
theorem DuoS.grown (h : DuoS w0 x X lx bx y Y ly bY w) (hX : X ≠ 49) (hY : Y ≠ 49) {v : Value} {os : List Po} (ho : OwnO w w0.heap.size v os) (hg : w.grownBy w' v.ownBlock) : DuoS w0 x X lx bx y Y ly bY w' :=
  ⟨below_wrote h.keep hg h.sz (fun _ hk => (ho.lt hk).2), Nat.le_trans h.sz hg.size, h.sx.grow hg (ho.apart h.sx hX), h.sy.grow hg (ho.apart h.sy hY), h.ne, h.nx, h.ny⟩
theorem DuoS.but (h : DuoS w0 x X lx bx y Y ly bY w) {gs : List Nat} (hb : ButS gs w w') (hg : ∀ g ∈ gs, w0.heap.size ≤ g) {l1 l2 : List UInt8} {c1 c2 : Nat} (hx : Has w' x X (scC l1 c1)) (hy : Has w' y Y (scC l2 c2)) : DuoS w0 x X l1 c1 y Y l2 c2 w' :=
  ⟨hb.below h.keep h.sz hg, Nat.le_trans h.sz hb.size, hx, hy, h.ne, h.nx, h.ny⟩
end
theorem txt_cut (F : ByteArray) (n : Nat) : (F.extract 0 n).data.toList = F.data.toList.take n := by
  rw [ByteArray.data_extract, Array.toList_extract]; simp [List.extract]
theorem txt_rest (F : ByteArray) (n : Nat) : (F.extract n F.size).data.toList = F.data.toList.drop n := rest_list F n

end Go.Proofs.Ytoechlmahckchaa

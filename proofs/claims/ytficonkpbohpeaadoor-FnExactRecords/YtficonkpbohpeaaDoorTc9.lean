/- Packed tables: two put together, by and or by exclusive or. -/
import Derived.Test.YtficonkpbohpeaaDoorTc8
namespace Go.Proofs.YtficonkpbohpeaaDoor.Tc9
open Go.RowKit
open Ta0 Ta1 Tc2 Tc4 Tc5 Tc7 Tc8
open Nd0 (Kept set_other set_same lt_of_cell)
set_option linter.unusedVariables false

/-- What stands while the words of two are put together. -/
structure WT (w : World) (n m g h q g2 : Nat) (F G H : Nat → Bool) (k : Nat) (W : World) : Prop where
  lay : Lay W w.heap.size (.int .i64 (n : Int)) (.slice (some ⟨g, 0, none⟩) m m)
  lay2 : Lay W (w.heap.size + 1) (.int .i64 (n : Int)) (.slice (some ⟨h, 0, none⟩) m m)
  res : Lay W (w.heap.size + 2) (.int .i64 0) (.slice none 0 0)
  new : Lay W q (.int .i64 (n : Int)) (.slice (some ⟨g2, 0, none⟩) m m)
  wds : Wds W g m F
  wds2 : Wds W h m G
  wdk : Wdk W g2 m k H
  bel : Below w.heap.size w W
theorem WT.below {w : World} {n m g h q g2 k : Nat} {F G H : Nat → Bool} {W W' : World} (s : WT w n m g h q g2 F G H k W) (b : Below W.heap.size W W') : WT w n m g h q g2 F G H k W' :=
  ⟨s.lay.below b, s.lay2.below b, s.res.below b, s.new.below b, s.wds.below b, s.wds2.below b, s.wdk.below b, s.bel.trans (b.mono s.bel.size)⟩
theorem WT.drew {w : World} {n m g h q g2 k : Nat} {F G H : Nat → Bool} {W : World} (s : WT w n m g h q g2 F G H k W) : WT w n m g h q g2 F G H k W.drew :=
  s.below (below_drewN (Below.refl _ _) 1)
theorem WT.set {w : World} {n m g h q g2 k : Nat} {F G H : Nat → Bool} {W : World} (s : WT w n m g h q g2 F G H k W) (hg : g ≠ g2) (hh : h ≠ g2) (h0 : w.heap.size + 3 ≤ g2) (hq : g2 ≠ q) (v : Int) (hv : v = (wd H k : Int)) : WT w n m g h q g2 F G H (k + 1) (W.setCell ⟨g2, k, none⟩ (.int .u64 v)) := by
  have K := kset (S := fun b => b = g2) (Kept.refl (fun b => b = g2) W) (b := g2) (o := k) rfl (.int .u64 v)
  exact ⟨s.lay.kept K (by omega), s.lay2.kept K (by omega), s.res.kept K (by omega), s.new.kept K (fun e => hq e.symm), s.wds.kept K hg, s.wds2.kept K hh, s.wdk.set v hv, s.bel.trans (K.below (fun b hb => by omega) s.bel.size)⟩

end Go.Proofs.YtficonkpbohpeaaDoor.Tc9

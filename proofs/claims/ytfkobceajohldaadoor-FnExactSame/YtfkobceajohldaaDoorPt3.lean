/- The walks of the program's Same and Canon, out of contracts of ShowTerm and ReadTerm. -/
import Derived.Test.YtfkobceajohldaaDoorIc3
namespace Go.Proofs.YtfkobceajohldaaDoor.Pt3
open Go.RowKit
open Nd0 Nd3 Tm0 Tx0 Tx1 Ss0 Ss1 Ss8 Ss10 Tb0 Ic3
open Ws1 (ret_int ret_bool)
set_option linter.unusedVariables false

set_option maxHeartbeats 1000000 in
theorem iSameOf (hST : IShowTerm) : ISame := by
  intro w a a' l m c c' hT hN hM hc hc' hl hm
  have HST : Hid IShowTerm := hST
  have HT : Hid (Tabs w) := hT
  have HN : Hid (Nodes w a l) := hN
  have HM : Hid (Nodes w a' m) := hM
  clear hN hM hT hST
  go_enter Tryd.func16, Tryd.ntmps16
  go_wp2_with fail
  refine (HST.out _ a l c HT.out HN.out hc hl).mono ?_
  rintro e w1 ⟨rfl, hb1⟩
  have HB1 : Hid (Below w.heap.size w w1) := hb1
  have HM1 : Hid (Nodes w1 a' m) := HM.out.below hb1
  clear hb1
  go_wp2_with fail
  refine (HST.out _ a' m c' (HT.out.below HB1.out) HM1.out hc' hm).mono ?_
  rintro e w2 ⟨rfl, hb2⟩
  have HB2 : Hid (Below w.heap.size w w2) := HB1.out.trans (hb2.mono HB1.out.size)
  clear hb2
  cases h1 : hasB l
  · have HS : Hid (sameB l m = false) := same_no (.inl h1)
    go_wp2
    go_ret
    exact ⟨ret_bool HS.out.symm, HB2.out⟩
  · cases h2 : hasB m
    · have HS : Hid (sameB l m = false) := same_no (.inr h2)
      go_wp2
      go_ret
      exact ⟨ret_bool HS.out.symm, HB2.out⟩
    · have HS : Hid (sameB l m = decide (showL l = showL m)) := same_of h1 h2
      have HQ : Hid (((bs (showL l)).toList == (bs (showL m)).toList) = decide (showL l = showL m)) := by show _ = _; rw [eqb, tl_bs, tl_bs]
      go_wp2
      go_ret
      exact ⟨ret_bool (by rw [HS.out, ← HQ.out]), HB2.out⟩

end Go.Proofs.YtfkobceajohldaaDoor.Pt3

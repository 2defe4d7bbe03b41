/- Small texts of mine, one behind the other. -/
import Derived.Test.YtficonkpbohpeaaDoorJn7
import Derived.Test.YtficonkpbohpeaaDoorJm0
import Derived.Test.YtficonkpbohpeaaDoorPkT40
import Derived.Test.YtficonkpbohpeaaDoorPkT7
/- The exact law of Records. -/
namespace Go.Proofs.YtficonkpbohpeaaDoor.Jx3
open Go.RowKit
open Nd0 (Kept)
open Jn0 Jn6 Jn7 Jm0
open Ap4 (Ost)
open Ss0 (bs)
open Ss1 (tl tl_length)
open Zt0 (TabZ)
set_option linter.unusedVariables false

/-- A list of texts at f, made behind B: what a call of Records leaves. -/
def Rw (B n p : Nat) (f : Nat → ByteArray) (w' : World) (e : Ending) : Prop := ∃ g c, e = .returned (.tuple #[.slice (some ⟨g, 0, none⟩) n c, .int .i64 (p : Int)]) ∧ Sw w' g n f ∧ B ≤ g
theorem Rw.of {B : Nat} {w' : World} {S : ByteArray} {e : Ending} (h : RcP B w' S e) : Rw B (rcs (tl S)).length (endN (tl S)) (fl (rcs (tl S))) w' e := by
  obtain ⟨g, c, e1, ho⟩ := h
  obtain ⟨h1, h2, _⟩ := Sw.of ho
  exact ⟨g, c, e1, h1, h2⟩
set_option maxRecDepth 100000 in
set_option maxHeartbeats 2000000 in
theorem exRecords (w : World) (S : ByteArray) (hS : S.size ≤ maxLen) (hT : TabZ w) :
    Calls Tryd.prog 7 #[.string S] w fun e w' => e = .returned (.bool true) ∧ Below w.heap.size w w' := by
  by_cases hs : (1048576 : Int) < (S.size : Int)
  · clear hT
    go_enter Tryd.func7, Tryd.ntmps7
    go_wp2
    go_ret
    exact ⟨rfl, Below.refl _ _⟩
  obtain ⟨n, hn⟩ : ∃ n, n = (rcs (tl S)).length := ⟨_, rfl⟩
  obtain ⟨p, hp⟩ : ∃ p, p = endN (tl S) := ⟨_, rfl⟩
  obtain ⟨f, hf⟩ : ∃ f, f = fl (rcs (tl S)) := ⟨_, rfl⟩
  have hnl : n ≤ 1048576 := by
    have := cat_len (rcs (tl S)); have h3 := end_le (tl S); rw [tl_length] at h3; unfold endN at h3; omega
  have HSP : Hid (Calls Tryd.prog 13 #[.string S] w fun e w' => Rw w.heap.size n p f w' e ∧ Below w.heap.size w w') := by
    show Calls _ _ _ _ _
    rw [hn, hp, hf]
    exact (sRecords S w (by omega)).mono fun e w' h => ⟨Rw.of h.1, h.2⟩
  have HIM : Hid (∀ W, TabZ W → Calls Tryd.prog 12 #[.string S] W fun e w' => Rw W.heap.size n p f w' e ∧ Below W.heap.size W w') := fun W hW => by
    rw [hn, hp, hf]
    exact (iRecords S W hW (by omega)).mono fun e w' h => ⟨Rw.of h.1, h.2⟩
  have HTT : Hid (TabZ w) := hT
  obtain ⟨z, hz⟩ : ∃ z : Int, z = ((1 + n : Nat) : Int) := ⟨_, rfl⟩
  have hz0 : ¬ z < 0 := by omega
  have HMK : Hid (∀ (W : World) (g c : Nat), Sw W g n f → Calls Tryd.prog 24 #[.slice (some ⟨g, 0, none⟩) n c, .int .i64 1] W fun e w' => e = .returned (.int .i64 z) ∧ Sw w' g n (fun j => Mk1.mt (1 + j)) ∧ Kept (fun i => i = g) W w') := fun W g c h => by rw [hz]; exact markStrS W g n c f h hnl
  have HHD : Hid (∀ (W : World) (g c : Nat), Sw W g n (fun j => Mk1.mt (1 + j)) → Calls Tryd.prog 25 #[.slice (some ⟨g, 0, none⟩) n c, .int .i64 1] W fun e w' => e = .returned (.int .i64 z) ∧ Below W.heap.size W w') := fun W g c h => by rw [hz]; exact heldStrS W g n c h hnl
  clear hT hn hp hf hz
  go_enter Tryd.func7, Tryd.ntmps7
  go_wp2_with fail
  refine Calls.mono HSP.out ?_
  rintro e w1 ⟨⟨g, c, rfl, hg, hgB⟩, hb⟩
  have HB1 : Hid (Below w.heap.size w w1) := hb
  have HG1 : Hid (Sw w1 g n f) := hg
  have HGB : Hid (w.heap.size ≤ g) := hgB
  clear hb hg hgB HSP
  go_wp2_with fail
  refine (HIM.out _ (HTT.out.below HB1.out)).mono ?_
  rintro e w2 ⟨⟨k, d, rfl, hg, hgB⟩, hb⟩
  have HB2 : Hid (Below w.heap.size w w2) := HB1.out.trans (hb.mono HB1.out.size)
  have HG2 : Hid (Sw w2 g n f) := HG1.out.below hb
  have HK2 : Hid (Sw w2 k n f) := hg
  have HKG : Hid (g < k) := Nat.lt_of_lt_of_le HG1.out.1 hgB
  have HKB : Hid (w.heap.size ≤ k) := Nat.le_trans HGB.out (Nat.le_of_lt HKG.out)
  clear hb hg hgB
  go_wp2_with fail
  refine (eqStrS w2 k g n d c f HK2.out HG2.out hnl).mono ?_
  rintro e w3 ⟨rfl, hb⟩
  have HB3 : Hid (Below w.heap.size w w3) := HB2.out.trans (hb.mono HB2.out.size)
  have HG3 : Hid (Sw w3 g n f) := HG2.out.below hb
  have HK3 : Hid (Sw w3 k n f) := HK2.out.below hb
  clear hb HG1 HB1 HG2 HK2 HB2
  go_wp2_with fail
  refine (HMK.out w3 k d HK3.out).mono ?_
  rintro e w4 ⟨rfl, hm, hk⟩
  have HB4 : Hid (Below w.heap.size w w4) := HB3.out.trans (hk.below (fun i hi => by rw [hi]; exact HKB.out) HB3.out.size)
  have HG4 : Hid (Sw w4 g n f) := HG3.out.kept hk (by have := HKG.out; omega)
  have HK4 : Hid (Sw w4 k n (fun j => Mk1.mt (1 + j))) := hm
  clear hm hk HG3 HK3 HB3
  go_wp2_with fail
  refine (HHD.out w4 k d HK4.out).mono ?_
  rintro e w5 ⟨rfl, hb⟩
  have HB5 : Hid (Below w.heap.size w w5) := HB4.out.trans (hb.mono HB4.out.size)
  have HG5 : Hid (Sw w5 g n f) := HG4.out.below hb
  have HK5 : Hid (Sw w5 k n (fun j => Mk1.mt (1 + j))) := HK4.out.below hb
  clear hb HG4 HK4 HB4
  go_wp2_with fail
  refine (HIM.out _ (HTT.out.below HB5.out)).mono ?_
  rintro e w6 ⟨⟨l, m, rfl, hg, hgB⟩, hb⟩
  have HB6 : Hid (Below w.heap.size w w6) := HB5.out.trans (hb.mono HB5.out.size)
  have HG6 : Hid (Sw w6 g n f) := HG5.out.below hb
  have HK6 : Hid (Sw w6 k n (fun j => Mk1.mt (1 + j))) := HK5.out.below hb
  have HL6 : Hid (Sw w6 l n f) := hg
  clear hb hg hgB HG5 HK5 HB5 HIM
  go_wp2_with fail
  refine (eqStrS w6 l g n m c f HL6.out HG6.out hnl).mono ?_
  rintro e w7 ⟨rfl, hb⟩
  have HB7 : Hid (Below w.heap.size w w7) := HB6.out.trans (hb.mono HB6.out.size)
  have HK7 : Hid (Sw w7 k n (fun j => Mk1.mt (1 + j))) := HK6.out.below hb
  clear hb HG6 HK6 HL6 HB6
  go_wp2_with fail
  refine (HHD.out w7 k d HK7.out).mono ?_
  rintro e w8 ⟨rfl, hb⟩
  have HB8 : Hid (Below w.heap.size w w8) := HB7.out.trans (hb.mono HB7.out.size)
  clear hb HK7 HB7
  go_wp2
  go_ret
  exact ⟨rfl, HB8.out⟩
end Go.Proofs.YtficonkpbohpeaaDoor.Jx3

/- Walks of what the laws themselves call: a byte of the code, whether the code is too great. -/
namespace Go.Proofs.YtficonkpbohpeaaDoor.Lw4
open Go.RowKit
open Dr0 Dr1
open Ws1 (ret_int ret_bool)
set_option linter.unusedVariables false

set_option maxHeartbeats 400000 in
theorem lbig (w : World) (a : Option Addr) (len cap : Nat) (b : Bool) (hb : b = decide (1048576 < len)) :
    Calls Tryd.prog 10 #[.slice a len cap] w fun e w' => e = .returned (.bool b) ∧ w' = w := by
  subst hb
  go_enter Tryd.func10, Tryd.ntmps10
  go_wp2
  go_ret
  exact ⟨ret_bool (by rw [Bool.eq_iff_iff]; simp; omega), rfl⟩

end Go.Proofs.YtficonkpbohpeaaDoor.Lw4

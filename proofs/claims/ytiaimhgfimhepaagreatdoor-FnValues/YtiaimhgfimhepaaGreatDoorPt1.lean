import Derived.Deep.RegionHeld
import Derived.Deep.CutRange
import Derived.Deep.CutBlock
import Derived.Test.YtiaimhgfimhepaaGreatDoorPkVV22
import Derived.Test.YtiaimhgfimhepaaGreatDoorPkVV24
namespace Go.Proofs.YtiaimhgfimhepaaGreatDoor
set_option maxRecDepth 100000
set_option maxHeartbeats 8000000
set_option linter.unusedVariables false
namespace Pt1
open Go.RowKit
open Nd0 Tm0 Tx0 Tx2 Tx5 Ss0 Ss1 Ss2 Ap4 Ap5 Tb0
open Ss9 (Wr dec_size head_len)
open Pg2 (iParts)
theorem iItoa (n : Nat) (hn : n < 1000000000) (w : World) (hT : Tabs w) :
 Calls Tryz.prog 62 #[.int .i64 n] w fun e w' => e = .returned (.string (bs (dec n))) /\ Below w.heap.size w w' := by
 refine (Tryz.strconv_Itoa (n : Int) (by omega) (by omega) w hT.pow).mono ?_
 rintro e w' ⟨rfl, k, os, rfl⟩
 exact ⟨by rw [itoa_dec]; rfl, Lib.below_grow _ _ (Nat.le_refl _) k os⟩
theorem iPair (sg : List UInt8) (a b : Nat) (w : World) (hs : sg.length <= 10) (ha : a < 1000000000) (hb : b < 1000000000) (hT : Tabs w) :
 Calls Tryz.prog 61 #[.string (bs sg), .int .i64 a, .int .i64 b] w fun e w' => e = .returned (.string (bs (sg ++ dec a ++ [58] ++ dec b))) /\ Below w.heap.size w w' := by
 have HT : Hid (Tabs w) := hT
 have h1 := dec_size ha
 have h2 := dec_size hb
 have h3 : (bs sg).size <= 10 := by rw [bs_size]; exact hs
 clear hT hs
 go_enter Tryz.func61, Tryz.ntmps61
 go_wp2_with fail
 refine (iItoa a ha _ HT.out).mono ?_
 rintro e w1 ⟨rfl, hb1⟩
 have HT1 : Hid (Tabs w1) := HT.out.below hb1
 have HB1 : Hid (Below w.heap.size w w1) := hb1
 clear hb1
 go_wp2_with fail
 refine (iItoa b hb _ HT1.out).mono ?_
 rintro e w2 ⟨rfl, hb2⟩
 have HB2 : Hid (Below w.heap.size w w2) := HB1.out.trans (hb2.mono HB1.out.size)
 clear hb2
 go_wp2
 go_ret
 refine ⟨ret_str ?_, HB2.out⟩
 show bs sg ++ bs (dec a) ++ bs [58] ++ bs (dec b) = _
 rw [bs_app, bs_app, bs_app]
theorem iPairE (sg : List UInt8) (a b : Nat) (y : List UInt8) (w : World) (hy : sg ++ dec a ++ [58] ++ dec b = y) (hs : sg.length <= 10) (ha : a < 1000000000) (hb : b < 1000000000) (hT : Tabs w) :
 Calls Tryz.prog 61 #[.string (bs sg), .int .i64 a, .int .i64 b] w fun e w' => e = .returned (.string (bs y)) /\ Below w.heap.size w w' := by
 subst hy; exact iPair sg a b w hs ha hb hT
theorem join_len {n : Nd} {ts : List (List UInt8)} (hW : Wr n ts.length) (h2 : 2 <= n.op) (hl : ∀ t ∈ ts, t.length <= 4000) : (Lib.join (hw n ++ (parts n).map (txt ts)) [32]).length <= 20000 := by
 obtain ⟨x, r, hx⟩ := hw_cons n
 have hj := join_hw (n := n) h2 hW.op.2
 rw [hx] at hj ⊢
 rw [join_app, hj, List.length_append]
 have hh := head_len hW
 have hp := parts_le n
 have ht : ∀ (ps : List Int), (Lib.joinTail [32] (ps.map (txt ts))).length <= ps.length * 4001 := by
  intro ps
  induction ps with
  | nil => simp [Lib.joinTail]
  | cons p ps ih =>
    have h9 : (txt ts p).length <= 4000 := by
     unfold txt
     rw [List.getD_eq_getElem?_getD]
     cases hg : ts[p.toNat]? with
     | none => simp
     | some y => exact hl y (List.mem_of_getElem? hg)
    simp only [Lib.joinTail, List.map_cons, List.flatten_cons, List.length_append, List.length_cons, List.length_nil] at ih ⊢
    omega
 have := ht (parts n)
 omega
theorem iJoin (L : List (List UInt8)) (jn : List UInt8) (g c N B : Nat) (w : World) (hO : Ost w B (.slice (some ⟨g, 0, none⟩) N c) L) (hN : N <= 6) (hj : Lib.join L [32] = jn) (hl : (Lib.join L [32]).length <= 20000) :
 Calls Tryz.prog 63 #[.slice (some ⟨g, 0, none⟩) N c, .string ⟨#[32]⟩] w fun e w' => e = .returned (.string (bs jn)) /\ Below w.heap.size w w' := by
 have hc := Ost.cap hO
 have hlen : (L.map bs).length = N := by rw [List.length_map]; exact hc.1.symm
 have hmb : (L.map bs).map (·.data.toList) = L := by
  rw [List.map_map]
  exact (List.map_congr_left (fun x _ => rfl)).trans (List.map_id _)
 have h9 := Tryz.strings_Join g 0 c (L.map bs) ⟨#[32]⟩ w (fun i x hx => by
  rw [List.getElem?_map] at hx
  obtain ⟨y, hy, rfl⟩ := Option.map_eq_some_iff.1 hx
  have hi := (List.getElem?_eq_some_iff.1 hy).1
  rw [Nat.zero_add, Ost.cells hO i hi]
  rw [List.getElem?_eq_getElem hi] at hy
  cases hy; rfl) (hO.lt g rfl).2 (by rw [hlen]; omega) (by rw [List.length_map]; exact hc.2) (by rw [hmb]; exact Nat.le_trans hl (by omega))
 rw [hlen, hmb] at h9
 refine h9.mono ?_
 rintro e w' ⟨rfl, hb⟩
 exact ⟨by rw [<- hj]; rfl, hb⟩
theorem lit_two (W : World) (g : Nat) (x y : List UInt8) (hg : g = W.heap.size) : ∀ i (h : i < [x, y].length), (W.alloc (.cells #[.string (bs x), .string (bs y)] 9)).cell? ⟨g, i, none⟩ = some (.string (bs [x, y][i])) := by
 subst hg
 intro i hi
 rw [World.cell?_alloc_new]
 have : i = 0 \/ i = 1 := by simp at hi; omega
 rcases this with rfl | rfl <;> rfl
theorem iNodeText (n : Nd) (w : World) (ta : Option Addr) (ts : List (List UInt8)) (tc : Nat) (hT : Tabs w) (hS : Strs w ta ts) (hW : Wr n ts.length) (hl : ∀ t ∈ ts, t.length <= 4000) :
 Calls Tryz.prog 44 #[.agg #[.int .i64 n.op, .int .i64 n.w, .int .i64 n.k, .int .i64 n.a, .int .i64 n.b, .int .i64 n.c], .slice ta ts.length tc] w fun e w' => e = .returned (.string (bs (progN n ts))) /\ Below w.heap.size w w' := by
 have HW : Hid (Wr n ts.length) := hW
 have HL : Hid (∀ t ∈ ts, t.length <= 4000) := hl
 obtain ⟨ww, hww⟩ : ∃ ww : Nat, n.w = (ww : Int) := ⟨n.w.toNat, by have := hW.w0; omega⟩
 obtain ⟨j, hj⟩ : ∃ j : Nat, n.op = (j : Int) := ⟨n.op.toNat, by have := hW.op; omega⟩
 have hw9 : ww < 1000000000 := by have := hW.w1; omega
 have hj20 : j <= 20 := by have := hW.op; omega
 have hjz : (j : Int) < 21 := by omega
 obtain ⟨x0, hx0⟩ : ∃ x0 : List UInt8, opTab.getD j [] = x0 := ⟨_, rfl⟩
 have HX0 : Hid (opTab.getD j [] = x0) := hx0
 obtain ⟨w1, hw1⟩ : ∃ w1 : World, w1 = w.alloc (.cells #[.int .i64 j, .int .i64 n.w, .int .i64 n.k, .int .i64 n.a, .int .i64 n.b, .int .i64 n.c] 33) := ⟨_, rfl⟩
 have hb1 : Below w.heap.size w w1 := by rw [hw1]; exact (Below.refl _ _).alloc (Nat.le_refl _) _
 have HB1 : Hid (Below w.heap.size w w1) := hb1
 have HS1 : Hid (Strs w1 ta ts) := hS.below hb1
 have HT1 : Hid (Tabs w1) := hT.below hb1
 have z0 : w1.cell? ⟨0, j, none⟩ = some (.string (bs x0)) := by rw [<- hx0]; exact HT1.out.ops j (by omega)
 have HN : Hid (n = ⟨(j : Int), (ww : Int), n.k, n.a, n.b, n.c⟩) := by show _ = _; cases n; simp at hj hww; simp [hj, hww]
 have HW1 : Hid (w1 = w.alloc (.cells #[.int .i64 j, .int .i64 n.w, .int .i64 n.k, .int .i64 n.a, .int .i64 n.b, .int .i64 n.c] 33)) := hw1
 rw [hw1] at z0
 rw [hj]
 clear hS hW hl hb1 hw1 hx0 hT
 by_cases h0 : j = 0
 ·obtain ⟨kk, hkk⟩ : ∃ kk : Nat, n.k = (kk : Int) := ⟨n.k.toNat, by have := HW.out.k0 (.inl (by omega)); omega⟩
  have hk9 : kk < 1000000000 := by have := HW.out.k0 (.inl (by omega)); omega
  have HE : Hid (progN n ts = [35] ++ dec ww ++ [58] ++ dec kk) := by
   show _ = _
   unfold progN
   rw [if_pos (by omega), hww, hkk, Int.toNat_natCast, Int.toNat_natCast]
  rw [hww, hkk] at HW1 z0 ⊢
  have hq0 : ((j : Int) == 0) = true := by simp [h0]
  clear hj hww hkk h0
  go_enter Tryz.func44, Tryz.ntmps44
  go_wp2_with fail
  refine (iPair [35] ww kk _ (by decide) hw9 hk9 (HT1.out.below (by rw [HW1.out]; exact (Below.refl _ _).alloc (Nat.le_refl _) _))).mono ?_
  rintro e w2 ⟨rfl, hb2⟩
  have HB2 : Hid (Below w.heap.size w w2) := HB1.out.trans (by rw [HW1.out]; exact ((Below.refl _ _).alloc (by simp) _).trans (hb2.mono (by simp; omega)))
  clear hb2
  go_wp2
  go_ret
  exact ⟨ret_str (by rw [HE.out]; simp), HB2.out⟩
 have hq0 : ((j : Int) == 0) = false := by rw [beq_eq_false_iff_ne]; omega
 by_cases h1 : j = 1
 ·obtain ⟨kk, hkk⟩ : ∃ kk : Nat, n.k = (kk : Int) := ⟨n.k.toNat, by have := HW.out.k0 (.inr (.inl (by omega))); omega⟩
  have hk9 : kk < 1000000000 := by have := HW.out.k0 (.inr (.inl (by omega))); omega
  have HE : Hid (progN n ts = [118] ++ dec kk ++ [58] ++ dec ww) := by
   show _ = _
   unfold progN
   rw [if_neg (by omega), if_pos (by omega), hww, hkk, Int.toNat_natCast, Int.toNat_natCast]
  rw [hww, hkk] at HW1 z0 ⊢
  have hq1 : ((j : Int) == 1) = true := by simp [h1]
  clear hj hww hkk h0 h1
  go_enter Tryz.func44, Tryz.ntmps44
  go_wp2_with fail
  refine (iPair [118] kk ww _ (by decide) hk9 hw9 (HT1.out.below (by rw [HW1.out]; exact (Below.refl _ _).alloc (Nat.le_refl _) _))).mono ?_
  rintro e w2 ⟨rfl, hb2⟩
  have HB2 : Hid (Below w.heap.size w w2) := HB1.out.trans (by rw [HW1.out]; exact ((Below.refl _ _).alloc (by simp) _).trans (hb2.mono (by simp; omega)))
  clear hb2
  go_wp2
  go_ret
  exact ⟨ret_str (by rw [HE.out]; simp), HB2.out⟩
 have hq1 : ((j : Int) == 1) = false := by rw [beq_eq_false_iff_ne]; omega
 have HE : Hid (progN n ts = [40] ++ Lib.join (hw n ++ (parts n).map (txt ts)) [32] ++ [41]) := by
  show _ = _
  unfold progN
  rw [if_neg (by omega), if_neg (by omega)]
 have HJ : Hid (n.op = (j : Int)) := hj
 have HWW : Hid (n.w = (ww : Int)) := hww
 clear hj hww
 go_enter Tryz.func44, Tryz.ntmps44
 go_upto_block 0 with fail
 obtain ⟨bn, hbn⟩ : ∃ bn : Nat, bn = w.heap.size := ⟨_, rfl⟩
 rw [<- HW1.out, <- hbn]
 have HBN : Hid (w1.heap.size = bn + 1) := by show _ = _; rw [HW1.out, hbn]; simp
 have hbn1 : bn < w1.heap.size := by have := HBN.out; omega
 have HND : Hid (NodeAt w1 bn 0 n) := by
  show NodeAt w1 bn 0 n
  rw [HW1.out, <- HJ.out]; exact Dw4.node_new w n 33 bn hbn 0 (by simp)
 have HBW : Hid (Below w1.heap.size w1 (w1.alloc (.cells #[.string (bs x0)] 9))) := (Below.refl _ _).alloc (Nat.le_refl _) _
 have HO0 : Hid (Ost (w1.alloc (.cells #[.string (bs x0)] 9)).drew w1.heap.size (.slice (some ⟨bn + 1, 0, none⟩) 1 1) [x0]) := Ost.one w1 _ _ _ HBN.out.symm (Nat.le_refl _)
 have HOW : Hid (Ost (w1.alloc (.cells #[.string (bs x0)] 9)) w1.heap.size (.slice (some ⟨bn + 1, 0, none⟩) 1 1) [x0]) := Ost.one w1 _ _ _ HBN.out.symm (Nat.le_refl _)
 have z1 := HND.out.c1
 have z2 := HND.out.c2
 have z4 := HND.out.c4
 rw [HWW.out] at z1
 simp only [Nat.zero_add] at z1 z2 z4
 have HHD : Hid (hw n = x0 :: (if n.op = 17 then [dec n.k.toNat, dec n.w.toNat] else if n.op = 19 \/ n.op = 20 then [[118] ++ dec n.k.toNat ++ [58] ++ dec n.b.toNat] else [])) := by
  show _ = _
  unfold hw
  rw [HJ.out, Int.toNat_natCast, HX0.out]
 clear z0 hbn
 go_cut [5] from 15 to 50 (fun s5 wc => ∃ g c, s5 = .slice (some ⟨g, 0, none⟩) (hw n).length c /\ Ost wc w1.heap.size (.slice (some ⟨g, 0, none⟩) (hw n).length c) (hw n) /\ Below w1.heap.size w1 wc)
 case first =>
  by_cases h17 : j = 17
  ·have hqq : ((j : Int) == 17) = true := by simp [h17]
   obtain ⟨kk, hkk⟩ : ∃ kk : Nat, n.k = (kk : Int) := ⟨n.k.toNat, by have := HW.out.k0 (.inr (.inr (.inl (by have := HJ.out; omega)))); omega⟩
   have hk9 : kk < 1000000000 := by have := HW.out.k0 (.inr (.inr (.inl (by have := HJ.out; omega)))); omega
   have HHW : Hid (hw n = [x0, dec kk, dec ww]) := by
    show _ = _
    rw [HHD.out, if_pos (by rw [HJ.out, h17]; rfl), hkk, HWW.out, Int.toNat_natCast, Int.toNat_natCast]
   rw [hkk] at z2
   clear h17 hkk h0 h1
   go_wp2_with fail
   refine wp_region_held_drew (S := fun w' => Below w1.heap.size w1 w') (by kernel_rfl) (HBW.out.drew) (fun hHeld => ?_)
   refine wpAnyH_take (i := 0) (v := ?_) rfl (by kernel_rfl) (by kernel_rfl) (by kernel_rfl) (fun _ _ _ h => h) (Or.inl ⟨by rfl, ?_⟩) hHeld ?_
   rotate_left
   ·intro v9 hS9
    try dsimp only at hS9
    go_simp
    try with_reducible rfl
   try simp only [Act.put, List.setIfInBounds_toArray, List.set_cons_zero, List.set_cons_succ, List.getElem_toArray, List.getElem_cons_zero]
   refine wpAnyH_take (i := 1) (v := ?_) rfl (by kernel_rfl) (by kernel_rfl) (by kernel_rfl) (fun _ _ _ h => h) (Or.inl ⟨by rfl, ?_⟩) hHeld ?_
   rotate_left
   ·intro v9 hS9
    try dsimp only at hS9
    go_simp
    try with_reducible rfl
   try simp only [Act.put, List.setIfInBounds_toArray, List.set_cons_zero, List.set_cons_succ, List.getElem_toArray, List.getElem_cons_zero, List.getElem_cons_succ]
   refine wpAnyH_take (i := 2) (v := ?_) rfl (by kernel_rfl) (by kernel_rfl) (by kernel_rfl) (fun _ _ _ h => h) (Or.inl ⟨by rfl, ?_⟩) hHeld ?_
   rotate_left
   ·intro v9 hS9
    try dsimp only at hS9
    have q2 : v9.cell? ⟨bn, 2, none⟩ = some (.int .i64 (kk : Int)) := by rw [hS9.cell hbn1]; exact z2
    go_simp
    try with_reducible rfl
   try simp only [Act.put, List.setIfInBounds_toArray, List.set_cons_zero, List.set_cons_succ, List.getElem_toArray, List.getElem_cons_zero, List.getElem_cons_succ]
   refine wpAnyH_take (i := 4) (v := ?_) rfl (by kernel_rfl) (by kernel_rfl) (by kernel_rfl) (fun _ _ _ h => h) (Or.inl ⟨by rfl, ?_⟩) hHeld ?_
   rotate_left
   ·intro v9 hS9
    try dsimp only at hS9
    go_simp
    try with_reducible rfl
   try simp only [Act.put, List.setIfInBounds_toArray, List.set_cons_zero, List.set_cons_succ, List.getElem_toArray, List.getElem_cons_zero, List.getElem_cons_succ]
   refine wpAnyH_take (i := 5) (v := ?_) rfl (by kernel_rfl) (by kernel_rfl) (by kernel_rfl) (fun _ _ _ h => h) (Or.inl ⟨by rfl, ?_⟩) hHeld ?_
   rotate_left
   ·intro v9 hS9
    try dsimp only at hS9
    have q1 : v9.cell? ⟨bn, 1, none⟩ = some (.int .i64 (ww : Int)) := by rw [hS9.cell hbn1]; exact z1
    go_simp
    try with_reducible rfl
   try simp only [Act.put, List.setIfInBounds_toArray, List.set_cons_zero, List.set_cons_succ, List.getElem_toArray, List.getElem_cons_zero, List.getElem_cons_succ]
   refine wpAnyH_ready (rs := [3]) (by kernel_rfl) (by simp) ?_
   refine (AllReadyH.cons rfl (fun K hK => ?_) AllReadyH.nil)
   ·
    go_simp
    go_wp2_with (go_at_call 62; refine (iItoa kk hk9 _ (HT1.out.below hHeld)).mono ?_; rintro e wa ⟨rfl, hba⟩; have HBa : Hid (Below w1.heap.size w1 wa) := hHeld.trans (hba.mono hHeld.size); have HOa : Hid (Ost wa w1.heap.size (.slice (some ⟨bn + 1, 0, none⟩) 1 1) [x0]) := Ost.below HO0.out hba; clear hba)
    refine hK.out _ _ (HBa.out) (fun hNext => ?_)
    clear hK K hHeld
    have hHeld := hNext
    clear hNext
    refine wpAnyH_ready (rs := [6]) (by kernel_rfl) (by simp) ?_
    refine (AllReadyH.cons rfl (fun K hK => ?_) AllReadyH.nil)
    ·
     go_simp
     go_wp2_with (go_at_call 62; refine (iItoa ww hw9 _ (HT1.out.below hHeld)).mono ?_; rintro e wb ⟨rfl, hbb⟩; have HBb : Hid (Below w1.heap.size w1 wb) := hHeld.trans (hbb.mono hHeld.size); have HOb : Hid (Ost wb w1.heap.size (.slice (some ⟨bn + 1, 0, none⟩) 1 1) [x0]) := Ost.below HOa.out hbb; clear hbb)
     refine hK.out _ _ (HBb.out) (fun hNext => ?_)
     clear hK K hHeld
     have hHeld := hNext
     clear hNext
     refine wpAnyH_ready (rs := [7]) (by kernel_rfl) (by simp) ?_
     refine (AllReadyH.cons rfl (fun K hK => ?_) AllReadyH.nil)
     ·
      go_simp
      refine hK.out _ _ (hHeld.alloc hHeld.size _) (fun hNext => ?_)
      clear hK K hHeld
      have hHeld := hNext
      clear hNext
      refine wpAnyH_ready (rs := [8]) (by kernel_rfl) (by simp) ?_
      refine (AllReadyH.cons rfl (fun K hK => ?_) AllReadyH.nil)
      ·
       refine step_app_strs _ rfl _ _ rfl w1.heap.size (.slice (some ⟨bn + 1, 0, none⟩) 1 1) [x0] [dec kk, dec ww] wb.heap.size 2 rfl rfl (lit_two _ _ _ _ rfl) (by simp) (World.ownsRow.alloc HOb.out _) hHeld.size (by simp) ?_
       intro g cp wz ho hk hg
       simp only [List.length_cons, List.length_nil, Nat.zero_add, Nat.reduceAdd] at ho ⊢
       have HG : Hid (w1.heap.size <= g) := by
        rcases hg with e | e
        ·cases e; exact Nat.le_of_eq HBN.out
        ·exact Nat.le_trans hHeld.size e
       have HOz : Hid (Ost wz w1.heap.size (.slice (some ⟨g, 0, none⟩) 3 cp) [x0, dec kk, dec ww]) := ho
       have HK := hHeld.trans (hk.below (fun k hk => by cases hk; exact Nat.le_of_eq HBN.out) hHeld.size)
       refine hK.out _ _ (HK) (fun hNext => ?_)
       clear hK K hHeld
       have hHeld := hNext
       clear hNext
       clear HK ho hk hg
       try simp only [Act.put, List.setIfInBounds_toArray, List.set_cons_zero, List.set_cons_succ, List.getElem_toArray, List.getElem_cons_zero, List.getElem_cons_succ]
       refine wpAnyH_take (i := 9) (v := ?_) rfl (by kernel_rfl) (by kernel_rfl) (by kernel_rfl) (fun _ _ _ h => h) (Or.inl ⟨by rfl, ?_⟩) hHeld ?_
       rotate_left
       ·intro v9 hS9
        try dsimp only at hS9
        go_simp
        try with_reducible rfl
       try simp only [Act.put, List.setIfInBounds_toArray, List.set_cons_zero, List.set_cons_succ, List.getElem_toArray, List.getElem_cons_zero, List.getElem_cons_succ]
       refine wpAnyH_done (by kernel_rfl) ?_ _
       go_wp2_with fail
       go_meet
       case rel => exact ⟨g, cp, by rw [HHW.out]; rfl, by rw [HHW.out]; exact HOz.out, hHeld⟩
  have hq17 : ((j : Int) == 17) = false := by rw [beq_eq_false_iff_ne]; omega
  by_cases h19 : j = 19
  ·have hqq : ((j : Int) == 19) = true := by simp [h19]
   obtain ⟨kk, hkk⟩ : ∃ kk : Nat, n.k = (kk : Int) := ⟨n.k.toNat, by have := HW.out.k0 (by have := HJ.out; omega); omega⟩
   obtain ⟨bb, hbb⟩ : ∃ bb : Nat, n.b = (bb : Int) := ⟨n.b.toNat, by have := HW.out.b0 (by have := HJ.out; omega); omega⟩
   have hk9 : kk < 1000000000 := by have := HW.out.k0 (by have := HJ.out; omega); omega
   have hb9 : bb < 1000000000 := by have := HW.out.b0 (by have := HJ.out; omega); omega
   obtain ⟨y, hy⟩ : ∃ y : List UInt8, [118] ++ dec kk ++ [58] ++ dec bb = y := ⟨_, rfl⟩
   have HHW : Hid (hw n = [x0, y]) := by
    show _ = _
    rw [HHD.out, if_neg (by rw [HJ.out]; omega), if_pos (by rw [HJ.out]; omega), hkk, hbb, Int.toNat_natCast, Int.toNat_natCast, hy]
   have HY : Hid ([118] ++ dec kk ++ [58] ++ dec bb = y) := hy
   rw [hkk] at z2
   rw [hbb] at z4
   clear h17 h19 hkk hbb h0 h1 hy
   go_wp2_with fail
   refine (iPairE [118] kk bb y _ HY.out (by decide) hk9 hb9 (HT1.out.below HBW.out)).mono ?_
   rintro e w2 ⟨rfl, hb2⟩
   have HB2 : Hid (Below w1.heap.size w1 w2) := HBW.out.trans (hb2.mono HBW.out.size)
   have HO2 : Hid (Ost w2 w1.heap.size (.slice (some ⟨bn + 1, 0, none⟩) 1 1) [x0]) := Ost.below HOW.out hb2
   have hB2 : w1.heap.size <= w2.heap.size := HB2.out.size
   clear hb2
   go_wp2_with (at_builtin; go_must (refine app_str w2 rfl _ _ rfl w1.heap.size (.slice (some ⟨bn + 1, 0, none⟩) 1 1) [x0] y rfl rfl HO2.out hB2 (by simp) ?_; intro g9 cp9 w9 ho9 hkk9 hg9))
   have HB9 : Hid (Below w1.heap.size w1 w9) := HB2.out.trans (hkk9.below (fun i hi => (HO2.out.lt i hi).1) hB2)
   have HO9 : Hid (Ost w9 w1.heap.size (.slice (some ⟨g9, 0, none⟩) 2 cp9) [x0, y]) := ho9
   clear ho9 hkk9 hg9
   go_meet
   case rel => exact ⟨g9, cp9, by rw [HHW.out]; rfl, by rw [HHW.out]; exact HO9.out, HB9.out⟩
  have hq19 : ((j : Int) == 19) = false := by rw [beq_eq_false_iff_ne]; omega
  by_cases h20 : j = 20
  ·have hqq : ((j : Int) == 20) = true := by simp [h20]
   obtain ⟨kk, hkk⟩ : ∃ kk : Nat, n.k = (kk : Int) := ⟨n.k.toNat, by have := HW.out.k0 (by have := HJ.out; omega); omega⟩
   obtain ⟨bb, hbb⟩ : ∃ bb : Nat, n.b = (bb : Int) := ⟨n.b.toNat, by have := HW.out.b0 (by have := HJ.out; omega); omega⟩
   have hk9 : kk < 1000000000 := by have := HW.out.k0 (by have := HJ.out; omega); omega
   have hb9 : bb < 1000000000 := by have := HW.out.b0 (by have := HJ.out; omega); omega
   obtain ⟨y, hy⟩ : ∃ y : List UInt8, [118] ++ dec kk ++ [58] ++ dec bb = y := ⟨_, rfl⟩
   have HHW : Hid (hw n = [x0, y]) := by
    show _ = _
    rw [HHD.out, if_neg (by rw [HJ.out]; omega), if_pos (by rw [HJ.out]; omega), hkk, hbb, Int.toNat_natCast, Int.toNat_natCast, hy]
   have HY : Hid ([118] ++ dec kk ++ [58] ++ dec bb = y) := hy
   rw [hkk] at z2
   rw [hbb] at z4
   clear h17 h19 h20 hkk hbb h0 h1 hy
   go_wp2_with fail
   refine (iPairE [118] kk bb y _ HY.out (by decide) hk9 hb9 (HT1.out.below HBW.out)).mono ?_
   rintro e w2 ⟨rfl, hb2⟩
   have HB2 : Hid (Below w1.heap.size w1 w2) := HBW.out.trans (hb2.mono HBW.out.size)
   have HO2 : Hid (Ost w2 w1.heap.size (.slice (some ⟨bn + 1, 0, none⟩) 1 1) [x0]) := Ost.below HOW.out hb2
   have hB2 : w1.heap.size <= w2.heap.size := HB2.out.size
   clear hb2
   go_wp2_with (at_builtin; go_must (refine app_str w2 rfl _ _ rfl w1.heap.size (.slice (some ⟨bn + 1, 0, none⟩) 1 1) [x0] y rfl rfl HO2.out hB2 (by simp) ?_; intro g9 cp9 w9 ho9 hkk9 hg9))
   have HB9 : Hid (Below w1.heap.size w1 w9) := HB2.out.trans (hkk9.below (fun i hi => (HO2.out.lt i hi).1) hB2)
   have HO9 : Hid (Ost w9 w1.heap.size (.slice (some ⟨g9, 0, none⟩) 2 cp9) [x0, y]) := ho9
   clear ho9 hkk9 hg9
   go_meet
   case rel => exact ⟨g9, cp9, by rw [HHW.out]; rfl, by rw [HHW.out]; exact HO9.out, HB9.out⟩
  have hq20 : ((j : Int) == 20) = false := by rw [beq_eq_false_iff_ne]; omega
  have HHW : Hid (hw n = [x0]) := by
   show _ = _
   rw [HHD.out, if_neg (by rw [HJ.out]; omega), if_neg (by rw [HJ.out]; omega)]
  clear h17 h19 h20 h0 h1
  go_wp2_with fail
  go_meet
  case rel => exact ⟨bn + 1, 1, by rw [HHW.out]; rfl, by rw [HHW.out]; exact HOW.out, HBW.out⟩
 case rest =>
  obtain ⟨g, c, rfl, ho, hb2⟩ := hcut
  have HO2 : Hid (Ost wc w1.heap.size (.slice (some ⟨g, 0, none⟩) (hw n).length c) (hw n)) := ho
  have HB2 : Hid (Below w1.heap.size w1 wc) := hb2
  have HS2 : Hid (Strs wc ta ts) := HS1.out.below hb2
  have hnd := HND.out.below hb2 hbn1
  have d0 := hnd.c0
  have d1 := hnd.c1
  have d2 := hnd.c2
  have d3 := hnd.c3
  have d4 := hnd.c4
  have d5 := hnd.c5
  simp only [Nat.zero_add] at d1 d2 d3 d4 d5
  have HJL : Hid ((Lib.join (hw n ++ (parts n).map (txt ts)) [32]).length <= 20000) := join_len HW.out (by have := HJ.out; omega) HL.out
  have HHN : Hid ((hw n).length <= 3) := by
   show _ <= _
   rw [HHD.out]
   split
   ·simp
   ·split <;> simp
  clear ho hb2 hnd z1 z2 z4 hq0 hq1 h0 h1
  go_wp2_with fail
  refine (iParts n _).mono ?_
  rintro e w3 ⟨⟨pa, pc, rfl, hpi⟩, hb3⟩
  have HP3 : Hid (Ints w3 pa (parts n)) := hpi.ints
  have HS3 : Hid (Strs w3 ta ts) := HS2.out.below hb3
  have HB3 : Hid (Below w1.heap.size w1 w3) := HB2.out.trans (hb3.mono HB2.out.size)
  have HO3 : Hid (Ost w3 w1.heap.size (.slice (some ⟨g, 0, none⟩) (hw n).length c) (hw n)) := Ost.below HO2.out hb3
  have hpl := parts_le n
  have HPI : Hid (IntsIn w3 wc.heap.size w3.heap.size pa (parts n)) := hpi.within
  have HGW : Hid (g < wc.heap.size) := (HO2.out.lt g rfl).2
  clear hpi hb3 d0 d1 d2 d3 d4 d5
  go_wp2_with fail
  go_loopw [5, 54] (fun v q wr => ∃ k g' c' : Nat, k <= (parts n).length /\ q = .int .i64 k /\ v = .slice (some ⟨g', 0, none⟩) ((hw n).length + k) c' /\ Ost wr w1.heap.size (.slice (some ⟨g', 0, none⟩) ((hw n).length + k) c') (hw n ++ ((parts n).take k).map (txt ts)) /\ Below w1.heap.size w1 wr /\ IntsIn wr wc.heap.size w3.heap.size pa (parts n) /\ (g' < wc.heap.size \/ w3.heap.size <= g') /\ w3.heap.size <= wr.heap.size) (fun _ q _ => (parts n).length - (intOf q).toNat)
  case atStart => exact ⟨0, g, c, Nat.zero_le _, rfl, rfl, by simpa using HO3.out, HB3.out, HPI.out, .inl HGW.out, Nat.le_refl _⟩
  case round =>
   obtain ⟨k, g', c', hk, rfl, rfl, hO, hB, hI, hg, hsz⟩ := hrel
   have HO : Hid (Ost wr w1.heap.size (.slice (some ⟨g', 0, none⟩) ((hw n).length + k) c') (hw n ++ ((parts n).take k).map (txt ts))) := hO
   have HB : Hid (Below w1.heap.size w1 wr) := hB
   have HI : Hid (IntsIn wr wc.heap.size w3.heap.size pa (parts n)) := hI
   have HG : Hid (g' < wc.heap.size \/ w3.heap.size <= g') := hg
   have HSZ : Hid (w3.heap.size <= wr.heap.size) := hsz
   have hBr : w1.heap.size <= wr.heap.size := hB.size
   clear hO hB hI hg hsz
   by_cases hlt : k < (parts n).length
   ·have hkz : (k : Int) < ((parts n).length : Int) := by omega
    rcases HI.out.wints.ints.2 with e | ⟨pb, po, rfl, hpc⟩
    ·omega
    have q0 := hpc k hlt
    clear hpc
    have hpr := HW.out.ps _ (List.getElem_mem hlt)
    have HTK : Hid ((parts n).take (k + 1) = (parts n).take k ++ [(parts n)[k]]) := by show _ = _; rw [List.take_add_one, List.getElem?_eq_getElem hlt]; rfl
    generalize (parts n)[k] = pp at q0 hpr HTK
    obtain ⟨y, rfl⟩ : ∃ y : Nat, pp = (y : Int) := ⟨pp.toNat, by omega⟩
    have hyl : y < ts.length := by omega
    have hyz : (y : Int) < (ts.length : Int) := by omega
    rcases (HS1.out.below HB.out).2 with e | ⟨tb, tq, rfl, htc⟩
    ·omega
    have q1 := htc y hyl
    clear htc
    have HTX : Hid (txt ts (y : Int) = ts[y]) := by
     show _ = _
     rw [txt_nat, List.getD_eq_getElem?_getD, List.getElem?_eq_getElem hyl]; rfl
    generalize ts[y] = T at q1 HTX
    have HLN : Hid ((hw n ++ ((parts n).take k).map (txt ts)).length = (hw n).length + k) := by show _ = _; simp; omega
    have HLE : Hid ((hw n ++ ((parts n).take k).map (txt ts)).length <= 1048576) := by show _ <= _; rw [HLN.out]; have := HHN.out; omega
    obtain ⟨L, hL⟩ : ∃ L, hw n ++ ((parts n).take k).map (txt ts) = L := ⟨_, rfl⟩
    rw [hL] at HO HLN HLE
    have HL9 : Hid (hw n ++ ((parts n).take k).map (txt ts) = L) := hL
    obtain ⟨N9, hN9⟩ : ∃ N9, (hw n).length + k = N9 := ⟨_, rfl⟩
    rw [hN9] at HO HLN ⊢
    have HN9 : Hid ((hw n).length + k = N9) := hN9
    clear hL hN9
    go_wp2_with (at_builtin; go_must (refine app_str wr rfl _ _ rfl w1.heap.size (.slice (some ⟨g', 0, none⟩) N9 c') L T rfl rfl HO.out hBr HLE.out ?_; intro g9 cp9 w9 ho9 hkk9 hg9))
    have HB9 : Hid (Below w1.heap.size w1 w9) := HB.out.trans (hkk9.below (fun i hi => (HO.out.lt i hi).1) hBr)
    have HO9 : Hid (Ost w9 w1.heap.size (.slice (some ⟨g9, 0, none⟩) (L.length + 1) cp9) (L ++ [T])) := ho9
    have HI9 : Hid (IntsIn w9 wc.heap.size w3.heap.size (some ⟨pb, po, none⟩) (parts n)) := HI.out.kept hkk9 (fun b hb1 hb2 hb3 => by
     cases hb3
     have e1 : wc.heap.size <= g' := hb1
     have e2 : g' < w3.heap.size := hb2
     rcases HG.out with e | e <;> omega)
    have HG9 : Hid (g9 < wc.heap.size \/ w3.heap.size <= g9) := by
     rcases hg9 with e | e
     ·cases e; exact HG.out
     ·exact .inr (Nat.le_trans HSZ.out e)
    have HSZ9 : Hid (w3.heap.size <= w9.heap.size) := Nat.le_trans HSZ.out hkk9.size
    clear ho9 hkk9 hg9
    go_roundw
    case rel => exact ⟨k + 1, g9, cp9, by omega, by go_num, by rw [HLN.out, <- HN9.out]; rfl, by rw [HTK.out, List.map_append, List.map_cons, List.map_nil, HTX.out, <- List.append_assoc, HL9.out, <- Nat.add_assoc, HN9.out, <- HLN.out]; exact HO9.out, HB9.out, HI9.out, HG9.out, HSZ9.out⟩
    case measure => simp [intOf]; omega
   ·have hkz : ¬ (k : Int) < ((parts n).length : Int) := by omega
    have hke : k = (parts n).length := by omega
    have HOE : Hid (Ost wr w1.heap.size (.slice (some ⟨g', 0, none⟩) ((hw n).length + k) c') (hw n ++ (parts n).map (txt ts))) := by
     have h9 := HO.out
     rwa [hke, List.take_of_length_le (Nat.le_refl _), <- hke] at h9
    have HN3 : Hid ((hw n).length + k <= 6) := by have := HHN.out; show _ <= _; omega
    clear hke
    obtain ⟨L, hL⟩ : ∃ L, hw n ++ (parts n).map (txt ts) = L := ⟨_, rfl⟩
    rw [hL] at HOE HJL HE
    obtain ⟨N9, hN9⟩ : ∃ N9, (hw n).length + k = N9 := ⟨_, rfl⟩
    rw [hN9] at HOE HN3 ⊢
    obtain ⟨jn, hjn⟩ : ∃ jn, Lib.join L [32] = jn := ⟨_, rfl⟩
    have HJN : Hid (Lib.join L [32] = jn) := hjn
    have hjs : (bs jn).size <= 20000 := by rw [bs_size, <- hjn]; exact HJL.out
    clear hL hN9 hjn
    go_wp2_with fail
    refine (iJoin L jn g' c' N9 w1.heap.size wr HOE.out HN3.out HJN.out HJL.out).mono ?_
    rintro e w5 ⟨rfl, hb5⟩
    have HB5 : Hid (Below w.heap.size w w5) := HB1.out.trans ((HB.out.trans (hb5.mono HB.out.size)).mono HB1.out.size)
    clear hb5
    go_wp2
    go_ret
    refine ⟨ret_str ?_, HB5.out⟩
    rw [HE.out, HJN.out]
    show bs [40] ++ bs jn ++ bs [41] = _
    rw [bs_app, bs_app]
end Pt1
end Go.Proofs.YtiaimhgfimhepaaGreatDoor

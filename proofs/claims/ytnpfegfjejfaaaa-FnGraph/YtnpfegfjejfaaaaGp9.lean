/- The program's GraphTable. -/
import Derived.Test.YtnpfegfjejfaaaaGt0
import Derived.Test.YtnpfegfjejfaaaaPkGc
import Derived.Test.YtnpfegfjejfaaaaGx0
namespace Go.Proofs.Ytnpfegfjejfaaaa.Gp9
open Go.RowKit
open Nd0 Qb0 Qb2 Gr0 Gr1 Mq0 Nt0 Gp1 Gp3 Gp7 Ta0 Ta1 Tc4 Tc6 Tc7 Tc8 Wv0 Wv1 Gt0
open Ss0 (bs)
open Gx0 (Lay)
set_option linter.unusedVariables false

/-- What GraphTable answers. -/
def tgN (ins : Int) (l : List An) (x : Int) : Int := if gokB ins l = true ∧ wireB ins l x = true then ins else 0
def tgS (ins : Int) (l : List An) (x : Int) : ByteArray := if gokB ins l = true ∧ wireB ins l x = true then bs (tab ins.toNat (gtab ins.toNat l x)) else ⟨#[]⟩
def tgB (ins : Int) (l : List An) (x : Int) : Bool := gokB ins l && wireB ins l x
theorem no_n {ins : Int} {l : List An} {x : Int} (h : ¬ (gokB ins l = true ∧ wireB ins l x = true)) : tgN ins l x = 0 ∧ tgS ins l x = ⟨#[]⟩ ∧ tgB ins l x = false := by
  refine ⟨by unfold tgN; rw [if_neg h], by unfold tgS; rw [if_neg h], ?_⟩
  unfold tgB
  cases hg : gokB ins l
  · rfl
  · cases hw : wireB ins l x
    · rfl
    · exact absurd ⟨hg, hw⟩ h

/-- The words of the inputs, the first j of them those of block k. -/
def InR (W : World) (gi n j k : Nat) : Prop := ∀ t, t < n → (∃ v : Int, W.cell? ⟨gi, t, none⟩ = some (.int .u64 v) ∧ (t < j → v = (wdN (fun b => pbit n t (64 * k + b)) 64 : Int))) ∧ W.frozen? ⟨gi, t, none⟩ = false
theorem InR.kept {W W' : World} {gi n j k : Nat} (h : InR W gi n j k) {S : Nat → Prop} (q : Kept S W W') (hs : ¬ S gi) : InR W' gi n j k := fun t ht => by
  obtain ⟨⟨v, h1, h2⟩, h3⟩ := h t ht
  have hg : gi < W.heap.size := World.block_lt_of_cell? _ _ h1
  exact ⟨⟨v, by rw [q.cell (p := ⟨gi, t, none⟩) hg hs]; exact h1, h2⟩, by rw [q.frozen (p := ⟨gi, t, none⟩) hg hs]; exact h3⟩
theorem InR.set {W : World} {gi n j k : Nat} (h : InR W gi n j k) : InR (W.setCell ⟨gi, j, none⟩ (.int .u64 (wdN (fun b => pbit n j (64 * k + b)) 64 : Int))) gi n (j + 1) k := fun t ht => by
  obtain ⟨⟨u, h1, h2⟩, h3⟩ := h t ht
  by_cases e : t = j
  · subst e
    exact ⟨⟨_, set_same h1, fun _ => rfl⟩, by rw [World.frozen?_setCell]; exact h3⟩
  · exact ⟨⟨u, by rw [set_other (by simp <;> omega)]; exact h1, fun x => h2 (by omega)⟩, by rw [World.frozen?_setCell]; exact h3⟩
theorem InR.again {W : World} {gi n j k : Nat} (h : InR W gi n j k) (k' : Nat) : InR W gi n 0 k' := fun t ht => by
  obtain ⟨⟨u, h1, h2⟩, h3⟩ := h t ht
  exact ⟨⟨u, h1, fun x => by omega⟩, h3⟩
theorem InR.us {W : World} {gi n k : Nat} (h : InR W gi n n k) : Us W gi 0 ((List.range n).map fun i => wdN (fun b => pbit n i (64 * k + b)) 64) := fun j hj => by
  have hj' : j < n := by simpa using hj
  obtain ⟨⟨u, h1, h2⟩, h3⟩ := h j hj'
  rw [Nat.zero_add, h1, h2 hj']
  simp
/-- All that the loop over the words stands on. -/
structure Ts (Z W : World) (pb g2 gi n m k : Nat) (H : Nat → Bool) : Prop where
  b : Below Z.heap.size Z W
  p : Lay W pb (.int .i64 (n : Int)) (.slice (some ⟨g2, 0, none⟩) m m)
  w : Wdk W g2 m k H
  i : InR W gi n 0 k
  pl : Z.heap.size ≤ pb
  gl : Z.heap.size ≤ g2
  il : Z.heap.size ≤ gi
  pg : pb ≠ g2
  pi : pb ≠ gi
  gg : g2 ≠ gi
  gis : gi < W.heap.size

set_option maxRecDepth 100000 in
set_option maxHeartbeats 8000000 in
theorem iGraphTable (w : World) (ins : Int) (a : Option Addr) (c : Nat) (l : List An) (h : Ans w a l) (x : Int) :
    Calls Try.prog 16 #[.agg #[.int .i64 ins, .slice a l.length c], .int .i64 x] w fun e w' => e = .returned (.tuple #[.agg #[.int .i64 (tgN ins l x), .string (tgS ins l x)], .bool (tgB ins l x)]) ∧ Below w.heap.size w w' := by
  have H : Hid (Ans w a l) := h
  clear h
  obtain ⟨W, hW⟩ : ∃ W, W = (w.alloc (.cells #[.int .i64 ins, .slice a l.length c] 29)).alloc (.cells #[.int .i64 0, .string ⟨#[]⟩] 25) := ⟨_, rfl⟩
  have HWB : Hid (Below w.heap.size w W) := by rw [hW]; exact ((Below.refl _ _).alloc (Nat.le_refl _) _).alloc (by simp) _
  obtain ⟨q, hq⟩ : ∃ q, q = w.heap.size := ⟨_, rfl⟩
  have hs : W.heap.size = q + 1 + 1 := by rw [hW, hq]; simp
  have LG : Hid (Lay W q (.int .i64 ins) (.slice a l.length c)) := by rw [hW, hq]; exact (Lay.made _ _ _ _).alloc _
  have LR : Hid (Lay W (q + 1) (.int .i64 0) (.string ⟨#[]⟩)) := by
    rw [hW, hq]
    have h := Lay.made (w.alloc (.cells #[.int .i64 ins, .slice a l.length c] 29)) (.int .i64 0) (.string ⟨#[]⟩) 25
    have hA : (w.alloc (.cells #[.int .i64 ins, .slice a l.length c] 29)).heap.size = w.heap.size + 1 := by simp
    rw [hA] at h
    exact h
  have HW : Hid (W = (w.alloc (.cells #[.int .i64 ins, .slice a l.length c] 29)).alloc (.cells #[.int .i64 0, .string ⟨#[]⟩] 25)) := hW
  have HQ : Hid (q = w.heap.size) := hq
  have HS : Hid (W.heap.size = q + 1 + 1) := hs
  clear hW hq hs
  go_enter Try.func16, Try.ntmps16
  go_upto_region 1 with fail
  rw [← HW.out, ← HQ.out]
  have g0 := LG.out.c0
  have g1 := LG.out.c1
  go_wp2_with fail
  refine (iNetOf W ins a c l (H.out.below HWB.out)).mono ?_
  rintro e w2 (⟨hg, rfl, hb2⟩ | ⟨hg, p, rfl, hnet, hb2⟩)
  · obtain ⟨e1, e2, e3⟩ := no_n (ins := ins) (l := l) (x := x) (fun e => by rw [hg] at e; exact absurd e.1 (by simp))
    have HE : Hid (tgN ins l x = 0 ∧ tgS ins l x = ⟨#[]⟩ ∧ tgB ins l x = false) := ⟨e1, e2, e3⟩
    have HB2 : Hid (Below W.heap.size W w2) := hb2
    clear e1 e2 e3 hg hb2 g0 g1
    have y0 := (LR.out.below HB2.out).c0
    have y1 := (LR.out.below HB2.out).c1
    have z0 := (LR.out.below HB2.out).z0
    have z1 := (LR.out.below HB2.out).z1
    go_wp2
    refine bodyPost_ret (v := .tuple #[.agg #[.int .i64 0, .string ⟨#[]⟩], .bool false]) (by simp [results, Try.results16, go_sem, y0, y1]) rfl ⟨by rw [HE.out.1, HE.out.2.1, HE.out.2.2], ?_⟩
    have K9 : Kept (fun k => k = q + 1) w2 ((w2.setCell ⟨q + 1, 0, none⟩ (.int .i64 0)).setCell ⟨q + 1, 1, none⟩ (.string ⟨#[]⟩)) := Kept.setCell (S := fun k => k = q + 1) (Kept.setCell (S := fun k => k = q + 1) (Kept.refl _ w2) (p := ⟨q + 1, 0, none⟩) rfl _) (p := ⟨q + 1, 1, none⟩) rfl _
    exact HWB.out.trans ((HB2.out.mono HWB.out.size).trans (K9.below (fun k e => by have := HQ.out; omega) (Nat.le_trans HWB.out.size HB2.out.size)))
  have HB2 : Hid (Below W.heap.size W w2) := hb2
  obtain ⟨h0, h1, hl, hok⟩ := gok_facts hg
  have HG : Hid (gokB ins l = true) := hg
  have HOK : Hid (okL ins l = true) := hok
  obtain ⟨v, bm, hnt⟩ := hnet
  have HN : Hid (Nt w2 (fun k => k < W.heap.size) p ins l v bm) := hnt
  clear hg hb2 g0 g1 hok hnt
  go_wp2_with fail
  refine (iHasWire HN.out h0 h1 hl x).mono ?_
  cases hwx : wireB ins l x with
  | false =>
    rintro e w3 ⟨rfl, m, hw3⟩
    obtain ⟨e1, e2, e3⟩ := no_n (ins := ins) (l := l) (x := x) (fun e => by rw [hwx] at e; exact absurd e.2 (by simp))
    have HE : Hid (tgN ins l x = 0 ∧ tgS ins l x = ⟨#[]⟩ ∧ tgB ins l x = false) := ⟨e1, e2, e3⟩
    have HB3 : Hid (Below W.heap.size W w3) := by rw [hw3]; exact ⟨HB2.out.os, HB2.out.tape, HB2.out.output, HB2.out.size, HB2.out.block⟩
    clear e1 e2 e3 hwx hw3
    have y0 := (LR.out.below HB3.out).c0
    have y1 := (LR.out.below HB3.out).c1
    have z0 := (LR.out.below HB3.out).z0
    have z1 := (LR.out.below HB3.out).z1
    go_wp2
    refine bodyPost_ret (v := .tuple #[.agg #[.int .i64 0, .string ⟨#[]⟩], .bool false]) (by simp [results, Try.results16, go_sem, y0, y1]) rfl ⟨by rw [HE.out.1, HE.out.2.1, HE.out.2.2], ?_⟩
    have K9 : Kept (fun k => k = q + 1) w3 ((w3.setCell ⟨q + 1, 0, none⟩ (.int .i64 0)).setCell ⟨q + 1, 1, none⟩ (.string ⟨#[]⟩)) := Kept.setCell (S := fun k => k = q + 1) (Kept.setCell (S := fun k => k = q + 1) (Kept.refl _ w3) (p := ⟨q + 1, 0, none⟩) rfl _) (p := ⟨q + 1, 1, none⟩) rfl _
    exact HWB.out.trans ((HB3.out.mono HWB.out.size).trans (K9.below (fun k e => by have := HQ.out; omega) (Nat.le_trans HWB.out.size HB3.out.size)))
  | true =>
    rintro e Z ⟨rfl, m0, hw3⟩
    have HBZ : Hid (Below W.heap.size W Z) := by rw [hw3]; exact ⟨HB2.out.os, HB2.out.tape, HB2.out.output, HB2.out.size, HB2.out.block⟩
    have HNZ : Hid (Nt Z (fun k => k < W.heap.size) p ins l v bm) := by rw [hw3]; exact HN.out.kept (S := fun _ => False) ((Kept.refl _ _).drewN _) (fun _ e => e.elim)
    have HWX : Hid (wireB ins l x = true) := hwx
    clear hw3 hwx
    obtain ⟨n, rfl⟩ : ∃ n : Nat, ins = (n : Int) := ⟨ins.toNat, by omega⟩
    have hn : n ≤ 12 := by omega
    have hnw := nw_le hn
    obtain ⟨m, hm⟩ : ∃ m, m = nw n := ⟨_, rfl⟩
    have HM : Hid (m = nw n) := hm
    have HE : Hid (tgN (n : Int) l x = (n : Int) ∧ tgS (n : Int) l x = bs (tab n (gtab n l x)) ∧ tgB (n : Int) l x = true) := by
      refine ⟨by unfold tgN; rw [if_pos ⟨HG.out, HWX.out⟩], by unfold tgS; rw [if_pos ⟨HG.out, HWX.out⟩, Int.toNat_natCast], by unfold tgB; rw [HG.out, HWX.out]; rfl⟩
    have n0 := HNZ.out.c0
    have hpz := HNZ.out.lt
    go_wp2_with fail
    refine (newPacked n Z hn).mono ?_
    rintro e w3 ⟨g2, rfl, hg2, hw3, hb3⟩
    have HW3 : Hid (Wds w3 g2 (nw n) (fun _ => false)) := hw3
    have HB3 : Hid (Below Z.heap.size Z w3) := hb3
    have n3 : w3.cell? ⟨p, 0, none⟩ = some (.int .i64 (n : Int)) := by rw [hb3.cell hpz]; exact n0
    have hmk := makeWords n (by omega)
    have hp3 : p < w3.heap.size := Nat.lt_of_lt_of_le hpz hb3.size
    clear hw3 hb3 n0
    rw [← hm] at hnw ⊢
    clear hm
    go_upto_region 6 with fail
    clear hmk n3
    obtain ⟨W4, hW4⟩ : ∃ W4, W4 = w3.alloc (.cells #[.int .i64 (n : Int), .slice (some ⟨g2, 0, none⟩) m m] 76) := ⟨_, rfl⟩
    have s4 : W4.heap.size = w3.heap.size + 1 := by rw [hW4]; simp
    obtain ⟨W5, hW5⟩ : ∃ W5, W5 = W4.alloc (.cells (noughtsU n) 78) := ⟨_, rfl⟩
    obtain ⟨pb, hpb⟩ : ∃ pb, pb = w3.heap.size := ⟨_, rfl⟩
    obtain ⟨gi, hgi⟩ : ∃ gi, gi = w3.heap.size + 1 := ⟨_, rfl⟩
    have HT0 : Hid (Ts Z W5 pb g2 gi n m 0 (upto (2 ^ n) (gtab n l x))) := by
      have hb3s := HB3.out.size
      have hg2l := HW3.out.lt (by have := nw_le hn; omega)
      have k4 : Kept (fun _ => False) w3 W4 := by rw [hW4]; exact (Kept.refl _ _).alloc _
      have k5 : Kept (fun _ => False) W4 W5 := by rw [hW5]; exact (Kept.refl _ _).alloc _
      have L4 : Lay W4 w3.heap.size (.int .i64 (n : Int)) (.slice (some ⟨g2, 0, none⟩) m m) := by rw [hW4]; exact Lay.made _ _ _ _
      refine ⟨HB3.out.trans ((k4.trans k5).below (fun _ e => e.elim) hb3s), ?_, ?_, fun t ht => ?_, by omega, hg2, by omega, by omega, by omega, by omega, by rw [hW5]; simp; omega⟩
      · rw [hpb]; exact L4.kept k5 (fun e => e)
      · rw [HM.out]; exact (Wdk.start HW3.out _).kept (k4.trans k5) (fun e => e)
      · rw [hgi, ← s4]
        refine ⟨⟨0, by rw [hW5, World.cell?_alloc_new]; exact noughtsU_get n t ht, fun e => by omega⟩, by rw [hW5]; simp⟩
    rw [← hW4, ← hW5, ← hgi, ← hpb]
    clear hW4 hW5 s4 hpb hgi
    have pc0 := HT0.out.p.c0
    have pc1 := HT0.out.p.c1
    go_wp2
    clear pc0 pc1
    go_loopw [39] (fun i wr => ∃ k : Nat, k ≤ m ∧ i = .int .i64 k ∧ Ts Z wr pb g2 gi n m k (upto (2 ^ n) (gtab n l x))) (fun i _ => m - (intOf i).toNat)
    case atStart => exact ⟨0, Nat.zero_le _, rfl, HT0.out⟩
    case round =>
      obtain ⟨k, hk, rfl, hts⟩ := hrel
      have HT : Hid (Ts Z wr pb g2 gi n m k (upto (2 ^ n) (gtab n l x))) := hts
      clear hts
      by_cases hlt : k < m
      · have hkz : (k : Int) < (m : Int) := by omega
        have hk64 : k < 64 := by omega
        obtain ⟨W9, hW9⟩ : ∃ W9, W9 = wr := ⟨_, rfl⟩
        rw [← hW9] at HT ⊢
        clear hW9
        go_wp2
        go_loopw [44] (fun i w8 => ∃ j : Nat, j ≤ n ∧ i = .int .i64 j ∧ InR w8 gi n j k ∧ Kept (fun b => b = gi) W9 w8) (fun i _ => n - (intOf i).toNat)
        case atStart => exact ⟨0, Nat.zero_le _, rfl, HT.out.i, Kept.refl _ _⟩
        case round =>
          obtain ⟨j, hj, rfl, hin, hkk⟩ := hrel
          have HIN : Hid (InR wr gi n j k) := hin
          have HKK : Hid (Kept (fun b => b = gi) W9 wr) := hkk
          have HBW : Hid (Below Z.heap.size Z wr) := HT.out.b.trans (hkk.below (fun b e => by have := HT.out.il; omega) HT.out.b.size)
          have n8 : wr.cell? ⟨p, 0, none⟩ = some (.int .i64 (n : Int)) := by rw [HBW.out.cell hpz]; exact HNZ.out.c0
          clear hin hkk
          by_cases hjn : j < n
          · have hjz : (j : Int) < (n : Int) := by omega
            obtain ⟨⟨v0, r1, _⟩, r2⟩ := HIN.out j hjn
            go_wp2_with fail
            refine (inputWord n j k wr hn hjn hk64).mono ?_
            rintro e w8 ⟨rfl, hw8⟩
            have hw8' := hw8.symm
            clear hw8
            subst hw8'
            clear n8
            go_upto_region 13 with fail
            have HI2 : Hid (InR (wr.setCell ⟨gi, j, none⟩ (.int .u64 (wdN (fun b => pbit n j (64 * k + b)) 64 : Int))) gi n (j + 1) k) := HIN.out.set
            have HK2 : Hid (Kept (fun b => b = gi) W9 (wr.setCell ⟨gi, j, none⟩ (.int .u64 (wdN (fun b => pbit n j (64 * k + b)) 64 : Int)))) := HKK.out.trans (Kept.setCell (S := fun b => b = gi) (Kept.refl _ _) (p := ⟨gi, j, none⟩) rfl _)
            generalize wr.setCell ⟨gi, j, none⟩ (.int .u64 (wdN (fun b => pbit n j (64 * k + b)) 64 : Int)) = W10 at *
            clear r1 r2
            go_wp2
            go_roundw
            case rel => exact ⟨j + 1, by omega, by go_num, HI2.out, HK2.out⟩
            case measure => simp [intOf]; omega
          · have e : j = n := by omega
            subst e
            have hT9 := HT.out
            have HLP : Hid (Lay wr pb (.int .i64 (j : Int)) (.slice (some ⟨g2, 0, none⟩) m m)) := hT9.p.kept HKK.out hT9.pi
            have HWK : Hid (Wdk wr g2 m k (upto (2 ^ j) (gtab j l x))) := hT9.w.kept HKK.out hT9.gg
            have HNR : Hid (Nt wr (fun k => k < W.heap.size) p (j : Int) l v bm) := HNZ.out.below HBW.out
            have hgi8 : gi < wr.heap.size := Nat.lt_of_lt_of_le hT9.gis HKK.out.size
            have HSW : Hid (∀ W', Kept (fun _ => False) wr W' → Calls Try.prog 56 #[.pointer (some ⟨p, 0, none⟩), .slice (some ⟨gi, 0, none⟩) j j, .int .i64 x] W' fun e w' => e = .returned (.int .u64 ((wd (gtab j l x) k : Nat) : Int)) ∧ Below W'.heap.size W' w') := fun W' hK => by
              exact iWorth (HNR.out.kept hK (fun _ e => e.elim)) hn hl HOK.out (fun i b => pbit j i (64 * k + b)) gi 0 j (HIN.out.us.kept hK (fun e => e)) (Nat.lt_of_lt_of_le hgi8 hK.size) x HWX.out
            have HIU : Hid (∀ W', Calls Try.prog 57 #[.agg #[.int .i64 (j : Int), .slice (some ⟨g2, 0, none⟩) m m]] W' fun e w' => e = .returned (.int .u64 ((use (2 ^ j) : Nat) : Int)) ∧ Below W'.heap.size W' w') := fun W' => inUse j m g2 W' hn HM.out
            have hul : use (2 ^ j) < 18446744073709551616 := by
              have h := use_bit (2 ^ j) 
              unfold use
              split
              · rename_i h6
                have : 2 ^ (2 ^ j) ≤ 2 ^ 64 := Nat.pow_le_pow_right (by omega) (by omega)
                have e3 : (2 : Nat) ^ 64 = 18446744073709551616 := by decide
                omega
              · decide
            have hand := bandu (wd_lt (gtab j l x) k) hul
            have HVL : Hid (wd (gtab j l x) k &&& use (2 ^ j) = wd (upto (2 ^ j) (gtab j l x)) k) := use_and _ _ _ (by rw [← HM.out]; exact hlt)
            generalize use (2 ^ j) = us at *
            obtain ⟨fw, hfw⟩ : ∃ fw, fw = wd (gtab j l x) k := ⟨_, rfl⟩
            rw [← hfw] at hand HVL
            rw [← hfw] at HSW
            clear hfw
            have L0 := HLP.out.drew
            have hpbl := HLP.out.lt
            go_wp2
            go_region_held3 (fun w' => w'.cell? ⟨pb, 0, none⟩ = some (.int .i64 (j : Int)) ∧ w'.cell? ⟨pb, 1, none⟩ = some (.slice (some ⟨g2, 0, none⟩) m m)) ((first | exact ⟨L0.c0, L0.c1⟩ | exact ⟨L1.out.c0, L1.out.c1⟩ | exact ⟨L2.out.c0, L2.out.c1⟩ | exact ⟨L3.out.c0, L3.out.c1⟩)) ((first | (go_at_call 56; refine (HSW.out _ (Kept.refl _ _).drew).mono ?_; rintro e x1 ⟨rfl, hx1⟩; have B1 : Hid (Below wr.heap.size wr x1) := (Below.refl _ wr).drew.trans hx1; have L1 : Hid (Lay x1 pb (.int .i64 (j : Int)) (.slice (some ⟨g2, 0, none⟩) m m)) := HLP.out.below B1.out; clear hx1) | (go_at_call 57; refine (HIU.out _).mono ?_; rintro e x2 ⟨rfl, hx2⟩; have B2 : Hid (Below wr.heap.size wr x2) := B1.out.trans (hx2.mono B1.out.size); have L2 : Hid (Lay x2 pb (.int .i64 (j : Int)) (.slice (some ⟨g2, 0, none⟩) m m)) := HLP.out.below B2.out; have HW2 := HWK.out.below B2.out; obtain ⟨⟨v2, t1, _⟩, t2⟩ := HW2 k hlt; have L3 : Hid (Lay (x2.setCell ⟨g2, k, none⟩ (.int .u64 ((fw &&& us : Nat) : Int))) pb (.int .i64 (j : Int)) (.slice (some ⟨g2, 0, none⟩) m m)) := L2.out.kept (Kept.setCell (S := fun b => b = g2) (Kept.refl _ _) (p := ⟨g2, k, none⟩) rfl _) HT.out.pg; clear hx2 HW2)))
            all_goals
              have K9 : Kept (fun b => b = g2) x2 (x2.setCell ⟨g2, k, none⟩ (.int .u64 ((fw &&& us : Nat) : Int))) := Kept.setCell (S := fun b => b = g2) (Kept.refl _ _) (p := ⟨g2, k, none⟩) rfl _
              have HT2 : Hid (Ts Z (x2.setCell ⟨g2, k, none⟩ (.int .u64 ((fw &&& us : Nat) : Int))) pb g2 gi j m (k + 1) (upto (2 ^ j) (gtab j l x))) := by
                have h1 := HT.out
                have h2 := HBW.out.size
                have h3 := B2.out.size
                refine ⟨HBW.out.trans ((B2.out.mono h2).trans (K9.below (fun b e => by have := h1.gl; omega) (Nat.le_trans h2 h3))), L3.out, (HWK.out.below B2.out).set _ (by rw [HVL.out]), ((HIN.out.kept (S := fun _ => False) (Kept.ofBelow B2.out) (fun e => e)).kept K9 (fun e => h1.gg e.symm)).again (k + 1), h1.pl, h1.gl, h1.il, h1.pg, h1.pi, h1.gg, Nat.lt_of_lt_of_le hgi8 (Nat.le_trans h3 K9.size)⟩
              clear K9 t1 t2
              generalize x2.setCell ⟨g2, k, none⟩ (.int .u64 ((fw &&& us : Nat) : Int)) = W11 at *
              go_wp2
              go_roundw
              case rel => exact ⟨k + 1, by omega, by go_num, HT2.out⟩
              case measure => simp [intOf]; omega
      · have e : k = m := by omega
        subst e
        have hT9 := HT.out
        have HTB : Hid (Calls Try.prog 58 #[.agg #[.int .i64 (n : Int), .slice (some ⟨g2, 0, none⟩) k k]] wr fun e w' => e = .returned (.agg #[.int .i64 (n : Int), .string (bs (tab n (gtab n l x)))]) ∧ Below wr.heap.size wr w') := by
          have h := hT9.w.done
          have e : tab n (upto (2 ^ n) (gtab n l x)) = tab n (gtab n l x) := tab_ext fun i hi => by simp [upto, hi]
          have h9 := table n g2 (upto (2 ^ n) (gtab n l x)) wr hn (by rw [← HM.out]; exact h)
          rw [← HM.out, e] at h9
          exact h9
        have pc0 := hT9.p.c0
        have pc1 := hT9.p.c1
        clear hT9
        go_wp2_with fail
        refine HTB.out.mono ?_
        generalize bs (tab n (gtab n l x)) = TS at *
        rintro e w9 ⟨rfl, hb9⟩
        have HB9 : Hid (Below W.heap.size W w9) := HBZ.out.trans ((HT.out.b.trans (hb9.mono HT.out.b.size)).mono HBZ.out.size)
        clear hb9 pc0 pc1
        have y0 := (LR.out.below HB9.out).c0
        have y1 := (LR.out.below HB9.out).c1
        have z0 := (LR.out.below HB9.out).z0
        have z1 := (LR.out.below HB9.out).z1
        go_wp2
        refine bodyPost_ret (v := .tuple #[.agg #[.int .i64 (n : Int), .string TS], .bool true]) (by simp [results, Try.results16, go_sem, y0, y1]) rfl ⟨by rw [HE.out.1, HE.out.2.1, HE.out.2.2], ?_⟩
        have K9 : Kept (fun k => k = q + 1) w9 ((w9.setCell ⟨q + 1, 0, none⟩ (.int .i64 (n : Int))).setCell ⟨q + 1, 1, none⟩ (.string TS)) := Kept.setCell (S := fun k => k = q + 1) (Kept.setCell (S := fun k => k = q + 1) (Kept.refl _ w9) (p := ⟨q + 1, 0, none⟩) rfl _) (p := ⟨q + 1, 1, none⟩) rfl _
        exact HWB.out.trans ((HB9.out.mono HWB.out.size).trans (K9.below (fun k e => by have := HQ.out; omega) (Nat.le_trans HWB.out.size HB9.out.size)))

end Go.Proofs.Ytnpfegfjejfaaaa.Gp9

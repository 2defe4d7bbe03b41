/- The program's withoutQuantifiers: what is left of a sentence. -/
import Derived.Test.YtebejleeadofcaaFr2
import Derived.Test.YtebejleeadofcaaPkXF36
import Derived.Test.YtebejleeadofcaaPkXF38
import Derived.Test.YtebejleeadofcaaPkXF34
import Derived.Test.YtebejleeadofcaaPg11
namespace Go.Proofs.Ytebejleeadofcaa.Fq3
open Go.RowKit
open Nd0 Nd3 Qa0 Tm0 Tm1 Tm2 Tm3 Tm5 Tm6 Tm8 Fr2 Rw0 Pg1 Pg2 Pg10
open Nd4 (makeNodes zeros_at)
open Pg11 (makeInts noughts noughts_get)
open Lx4 (IPrune)
set_option linter.unusedVariables false

theorem mv_thr {l : List Nd} {n : Nd} {P : Nat → Int} (h : ∀ p ∈ parts n, P p.toNat = ((bel l p.toNat : Nat) : Int)) : mv P n = thrN l n := by
  have hcp := cnt_parts n
  unfold mv thrN
  rw [← hcp]
  have hc := parts_cases n
  rcases hc with e | e | e | e
  · simp [e]
  · have h1 := h n.a (by rw [e]; simp)
    simp [e, h1]
  · have h1 := h n.a (by rw [e]; simp)
    have h2 := h n.b (by rw [e]; simp)
    simp [e, h1, h2]
  · have h1 := h n.a (by rw [e]; simp)
    have h2 := h n.b (by rw [e]; simp)
    have h3 := h n.c (by rw [e]; simp)
    simp [e, h1, h2, h3]

/-- The list that is made: its first k nodes are done. -/
structure Ou (w : World) (go : Nat) (l : List Nd) (k : Nat) : Prop where
  at_ : ∀ j, j < l.length → ∃ v : Nd, NodeAt w go (j * 6) v ∧ (j < k → v = thrN l (nth l j))
  fr : ∀ j, j < l.length * 6 → w.frozen? ⟨go, j, none⟩ = false
theorem Ou.kept {w w' : World} {go : Nat} {l : List Nd} {k : Nat} (h : Ou w go l k) (hl : go < w.heap.size) {S : Nat → Prop} (hk : Kept S w w') (hs : ¬ S go) : Ou w' go l k := by
  refine ⟨fun j hj => ?_, fun j hj => by rw [hk.frozen (p := ⟨go, j, none⟩) hl hs]; exact h.fr j hj⟩
  obtain ⟨v, hv, he⟩ := h.at_ j hj
  exact ⟨v, ⟨by rw [hk.cell (p := ⟨go, _, none⟩) hl hs]; exact hv.c0, by rw [hk.cell (p := ⟨go, _, none⟩) hl hs]; exact hv.c1, by rw [hk.cell (p := ⟨go, _, none⟩) hl hs]; exact hv.c2, by rw [hk.cell (p := ⟨go, _, none⟩) hl hs]; exact hv.c3, by rw [hk.cell (p := ⟨go, _, none⟩) hl hs]; exact hv.c4, by rw [hk.cell (p := ⟨go, _, none⟩) hl hs]; exact hv.c5⟩, he⟩
theorem Ou.below {w w' : World} {go : Nat} {l : List Nd} {k : Nat} (h : Ou w go l k) (hl : go < w.heap.size) (hb : Below w.heap.size w w') : Ou w' go l k := h.kept hl (S := fun _ => False) (Kept.ofBelow hb) (fun h => h)
theorem Ou.set {w : World} {go : Nat} {l : List Nd} {k : Nat} (h : Ou w go l k) : Ou (setNode w go (k * 6) (thrN l (nth l k))) go l (k + 1) := by
  refine ⟨fun j hj => ?_, fun j hj => by rw [setNode_frozen]; exact h.fr j hj⟩
  obtain ⟨v, hv, he⟩ := h.at_ j hj
  by_cases e : j = k
  · subst e
    exact ⟨_, setNode_same hv, fun _ => rfl⟩
  · exact ⟨v, setNode_other hv (by omega), fun h9 => he (by omega)⟩
theorem Ou.nodes {w : World} {go : Nat} {l : List Nd} {k n : Nat} (h : Ou w go l k) (hn : n ≤ k) (hk : n ≤ l.length) (hm : l.length ≤ 80) : Nodes w (some ⟨go, 0, none⟩) (thrTo l n) := by
  refine ⟨by rw [thrTo_length]; unfold maxLen; omega, .inr ⟨go, 0, rfl, fun i hi => ?_⟩⟩
  have hi' : i < n := by rw [thrTo_length] at hi; exact hi
  obtain ⟨v, hv, he⟩ := h.at_ i (by omega)
  rw [nth_get hi, thrTo_nth l hi', ← he (by omega), Nat.zero_add]
  exact hv

set_option maxRecDepth 100000 in
set_option maxHeartbeats 8000000 in
theorem iWithout (hPR : IPrune) (w : World) (a : Option Addr) (l : List Nd) (c : Nat) (hN : Nodes w a l) (hT : termOk l = true) :
    Calls Try.prog 24 #[.slice a l.length c] w fun e w' => (∃ a' c', e = .returned (.slice a' (restL l).length c') ∧ WNodes w' w.heap.size a' (restL l) ∧ (restL l).length ≤ c') ∧ Below w.heap.size w w' := by
  have HT : Hid (termOk l = true) := hT
  have HN : Hid (Nodes w a l) := hN
  have HPR : Hid IPrune := hPR
  obtain ⟨hl1, hl2⟩ := term_len hT
  obtain ⟨gp, hgp⟩ : ∃ gp : Nat, gp = w.heap.size := ⟨_, rfl⟩
  obtain ⟨go, hgo⟩ : ∃ go : Nat, go = w.heap.size + 1 := ⟨_, rfl⟩
  obtain ⟨wa, hwa⟩ : ∃ wa : World, wa = (w.alloc (.cells (noughts l.length) 3)).alloc (.cells (Nd4.zeros l.length) 39) := ⟨_, rfl⟩
  have hb1 : Below w.heap.size w (w.alloc (.cells (noughts l.length) 3)) := (Below.refl _ _).alloc (Nat.le_refl _) _
  have hsz1 : (w.alloc (.cells (noughts l.length) 3)).heap.size = w.heap.size + 1 := by simp
  have hszA : wa.heap.size = w.heap.size + 2 := by rw [hwa]; simp
  have hba : Below w.heap.size w wa := by rw [hwa]; exact hb1.alloc (by omega) _
  have HBA : Hid (Below w.heap.size w wa) := hba
  have HRA : Hid (Row wa gp l.length (fun i => .int .i64 ((fun _ => 0) i))) := by
    rw [hwa, hgp]
    exact (Row.new w _ _ _ _ (fun i hi => noughts_get _ _ hi)).below ((Below.refl _ _).alloc (Nat.le_refl _) _)
  have HOA : Hid (Ou wa go l 0) := by
    rw [hwa, hgo]
    refine ⟨fun j hj => ⟨Nd.zero, ?_, fun h => absurd h (Nat.not_lt_zero _)⟩, fun j hj => by simp⟩
    have h9 := zeros_at (w.alloc (.cells (noughts l.length) 3)) l.length 39 j hj
    rw [hsz1] at h9
    exact h9
  have HGP : Hid (w.heap.size ≤ gp ∧ w.heap.size ≤ go ∧ gp ≠ go) := ⟨by omega, by omega, by omega⟩
  have HGA : Hid (go < wa.heap.size) := by show go < wa.heap.size; omega
  have hmi := makeInts l.length (by omega)
  have hmn := makeNodes l.length (by omega)
  clear hT hN hPR hba hb1 hsz1 hszA
  go_enter Try.func24, Try.ntmps24
  go_wp2
  clear hmi hmn
  rw [← hwa, ← hgo, ← hgp]
  clear hwa hgo hgp
  go_loopw [16] (fun i wr => ∃ k : Nat, k ≤ l.length ∧ i = .int .i64 (k : Int) ∧ (∃ P : Nat → Int, Row wr gp l.length (fun i => .int .i64 (P i)) ∧ ∀ p, p < k → P p = ((bel l p : Nat) : Int)) ∧ Ou wr go l k ∧ Below w.heap.size w wr ∧ go < wr.heap.size) (fun i _ => l.length - (intOf i).toNat)
  case atStart => exact ⟨0, Nat.zero_le _, rfl, ⟨_, HRA.out, fun p h => absurd h (Nat.not_lt_zero _)⟩, HOA.out, HBA.out, HGA.out⟩
  case round =>
    clear HRA HOA HBA HGA
    obtain ⟨k, hk, rfl, ⟨P, hr, hp⟩, hou, hb, hgs⟩ := hrel
    have HR : Hid (Row wr gp l.length (fun i => .int .i64 (P i))) := hr
    have HP : Hid (∀ p, p < k → P p = ((bel l p : Nat) : Int)) := hp
    have HO : Hid (Ou wr go l k) := hou
    have HB : Hid (Below w.heap.size w wr) := hb
    have hbs : w.heap.size ≤ wr.heap.size := hb.size
    clear hr hp hou hb
    by_cases hlt : k < l.length
    · have hlz : (k : Int) < (l.length : Int) := by omega
      rcases (HN.out.below HB.out).2 with h0 | ⟨xb, xo, rfl, hcn⟩
      · omega
      obtain ⟨p0, p1, p2, p3, p4, p5⟩ := hcn k hlt
      rw [nth_get hlt] at p0 p1 p2 p3 p4 p5
      clear hcn
      have hgw : gp < wr.heap.size := HR.out.lt (by omega)
      have hgn : ¬ gp = wr.heap.size := by omega
      obtain ⟨c1, c3⟩ := HR.out k hlt
      have HDP : Hid (∀ p ∈ parts (nth l k), 0 ≤ p ∧ p < (k : Int)) := down_of HT.out k hlt
      have HBQ : Hid (quant (nth l k).op = true → bel l k = bel l (nth l k).a.toNat) := fun h => bel_quant (down_of HT.out) hlt h
      have HBO : Hid (quant (nth l k).op = false → bel l k = k) := fun h => bel_other (down_of HT.out) hlt h
      obtain ⟨N, hN⟩ : ∃ N, N = thrN l (nth l k) := ⟨_, rfl⟩
      have HNX : Hid (N = thrN l (nth l k)) := hN
      have HMV : Hid (∀ Q : Nat → Int, (∀ p : Nat, p < k → Q p = ((bel l p : Nat) : Int)) → mv Q (nth l k) = N) := fun Q hQ => by
        rw [hN]
        exact mv_thr (fun p hp => hQ _ (by have := HDP.out p hp; omega))
      have HOS : Hid (∀ W, Ou W go l k → Ou (setNode W go (k * 6) N) go l (k + 1)) := fun W h => by rw [hN]; exact h.set
      clear hN HNX
      generalize nth l k = n at p0 p1 p2 p3 p4 p5 HDP HBQ HBO HMV
      obtain ⟨op, wd, vk, na, nb, nc⟩ := n
      dsimp only at p0 p1 p2 p3 p4 p5
      obtain ⟨bx, hbx⟩ : ∃ bx : Nat, bx = wr.heap.size := ⟨_, rfl⟩
      obtain ⟨ws, hws⟩ : ∃ ws : World, ws = wr.setCell ⟨gp, k, none⟩ (.int .i64 (k : Int)) := ⟨_, rfl⟩
      obtain ⟨w1, hw1⟩ : ∃ w1 : World, w1 = ws.alloc (.cells #[.int .i64 op, .int .i64 wd, .int .i64 vk, .int .i64 na, .int .i64 nb, .int .i64 nc] 39) := ⟨_, rfl⟩
      have hks : Kept (fun b => b = gp) wr ws := by rw [hws]; exact (Kept.refl (fun b => b = gp) _).setCell (p := ⟨gp, k, none⟩) rfl _
      have hss : ws.heap.size = wr.heap.size := by rw [hws]; simp [World.setCell]
      have hbn : Below ws.heap.size ws w1 := by rw [hw1]; exact (Below.refl _ _).alloc (Nat.le_refl _) _
      have hs1 : w1.heap.size = wr.heap.size + 1 := by rw [hw1, ← hss]; simp
      have HR1 : Hid (Row w1 gp l.length (fun i => .int .i64 ((fun i => if i = k then (k : Int) else P i) i))) := by
        have h9 : Row ws gp l.length (fun i => .int .i64 ((fun i => if i = k then (k : Int) else P i) i)) := by
          rw [hws]
          refine (HR.out.set hlt _).congr (fun i hi => ?_)
          by_cases e : i = k
          · simp [e]
          · simp [e]
        exact h9.below hbn
      have HO1 : Hid (Ou w1 go l k) := (HO.out.kept hgs hks (fun e => HGP.out.2.2 e.symm)).below (by omega) hbn
      have HB1 : Hid (Below w.heap.size w w1) := (HB.out.trans (hks.below (fun b hb => by cases hb; exact HGP.out.1) hbs)).trans (hbn.mono (by omega))
      have HX1 : Hid (NodeAt w1 bx 0 ⟨op, wd, vk, na, nb, nc⟩) := by
        rw [hw1, hbx, ← hss]
        exact ⟨by rw [World.cell?_alloc_new]; rfl, by rw [World.cell?_alloc_new]; rfl, by rw [World.cell?_alloc_new]; rfl, by rw [World.cell?_alloc_new]; rfl, by rw [World.cell?_alloc_new]; rfl, by rw [World.cell?_alloc_new]; rfl⟩
      have hg1 : go < w1.heap.size := by omega
      have hgb : ¬ gp = bx := by omega
      clear hbn hks
      go_wp2_with fail
      rw [← hws, ← hw1, ← hbx]
      clear hw1 hws hbx c1 c3 p0 p1 p2 p3 p4 p5 hgn hgw hs1 hss
      refine (iQuant _ _).mono ?_
      rintro e w2 ⟨rfl, hw2⟩
      have hw2' := hw2.symm
      clear hw2
      subst hw2'
      obtain ⟨b0, b1, b2, b3, b4, b5⟩ := HX1.out
      simp only [Nat.zero_add] at b1 b2 b3 b4 b5
      cases hq : quant op
      · have HKB : Hid (bel l k = k) := HBO.out hq
        have HMQ : Hid (mv (fun i => if i = k then (k : Int) else P i) ⟨op, wd, vk, na, nb, nc⟩ = N) := HMV.out _ (fun p hp => by show (if p = k then (k : Int) else P p) = _; rw [if_neg (by omega)]; exact HP.out p hp)
        go_wp2_with fail
        refine (iMoved ⟨op, wd, vk, na, nb, nc⟩ _ gp l.length l.length (fun i => if i = k then (k : Int) else P i) HR1.out (fun p hp => by have := HDP.out p hp; omega) hl2).mono ?_
        rw [HMQ.out]
        rintro e w3 ⟨rfl, hb3⟩
        have HO3 : Hid (Ou w3 go l k) := HO1.out.below hg1 hb3
        have HR3 : Hid (Row w3 gp l.length (fun i => .int .i64 ((fun i => if i = k then (k : Int) else P i) i))) := (HR1.out).below hb3
        have HB3 : Hid (Below w.heap.size w w3) := HB1.out.trans (hb3.mono HB1.out.size)
        have hg3 : go < w3.heap.size := Nat.lt_of_lt_of_le hg1 hb3.size
        obtain ⟨v, ⟨q0, q1, q2, q3, q4, q5⟩, _⟩ := HO3.out.at_ k hlt
        have f0 := HO3.out.fr (k * 6) (by omega)
        have f1 := HO3.out.fr (k * 6 + 1) (by omega)
        have f2 := HO3.out.fr (k * 6 + 2) (by omega)
        have f3 := HO3.out.fr (k * 6 + 3) (by omega)
        have f4 := HO3.out.fr (k * 6 + 4) (by omega)
        have f5 := HO3.out.fr (k * 6 + 5) (by omega)
        clear hb3 b0 b1 b2 b3 b4 b5 HR1 HO1 HX1 HB1 hq
        go_wp2_with fail
        go_roundw
        case rel =>
          have hk9 : Kept (fun b => b = go) w3 (setNode w3 go (k * 6) N) := setNode_keptS (S := fun b => b = go) (b := go) (p := k * 6) (n := N) rfl (Kept.refl _ _)
          refine ⟨k + 1, by omega, by go_num, ⟨_, HR3.out.kept hk9 (fun e => HGP.out.2.2 e), fun p hp => ?_⟩, HOS.out _ HO3.out, HB3.out.trans (hk9.below (fun b hb => by cases hb; exact HGP.out.2.1) HB3.out.size), Nat.lt_of_lt_of_le hg3 hk9.size⟩
          show (if p = k then (k : Int) else P p) = _
          by_cases e : p = k
          · subst e
            rw [if_pos rfl, HKB.out]
          · rw [if_neg e]
            exact HP.out p (by omega)
        case measure => simp [intOf]; omega
      · have hop : op = 19 ∨ op = 20 := by simpa [quant] using hq
        have hm : na ∈ parts ⟨op, wd, vk, na, nb, nc⟩ := by rw [parts_one (n := ⟨op, wd, vk, na, nb, nc⟩) (by show op = 2 ∨ op = 17 ∨ op = 19 ∨ op = 20; omega)]; simp
        obtain ⟨h91, h92⟩ := HDP.out na hm
        obtain ⟨pa, rfl⟩ := Int.eq_ofNat_of_zero_le h91
        have hpk : pa < k := by omega
        have hpl : (pa : Int) < (l.length : Int) := by omega
        obtain ⟨d1', _⟩ := HR1.out pa (by omega)
        obtain ⟨c1', c3⟩ := HR1.out k hlt
        have d1 : w1.cell? ⟨gp, pa, none⟩ = some (.int .i64 (if pa = k then (k : Int) else P pa)) := d1'
        have c1 : w1.cell? ⟨gp, k, none⟩ = some (.int .i64 (if k = k then (k : Int) else P k)) := c1'
        clear d1' c1'
        rw [if_neg (by omega), HP.out pa hpk] at d1
        rw [if_pos rfl] at c1
        have HKB : Hid (bel l k = bel l pa) := by
          have h9 : bel l k = bel l ((pa : Int)).toNat := HBQ.out hq
          rw [Int.toNat_natCast] at h9
          exact h9
        generalize bel l pa = Y at d1 HKB
        obtain ⟨w2, hw2⟩ : ∃ w2 : World, w2 = w1.setCell ⟨gp, k, none⟩ (.int .i64 (Y : Int)) := ⟨_, rfl⟩
        have hks : Kept (fun b => b = gp) w1 w2 := by rw [hw2]; exact (Kept.refl (fun b => b = gp) w1).setCell (p := ⟨gp, k, none⟩) rfl _
        have HR2 : Hid (Row w2 gp l.length (fun i => .int .i64 ((fun i => if i = k then (Y : Int) else P i) i))) := by
          rw [hw2]
          refine (HR1.out.set hlt _).congr (fun i hi => ?_)
          by_cases e : i = k
          · simp [e]
          · simp [e]
        have HO2 : Hid (Ou w2 go l k) := HO1.out.kept hg1 hks (fun e => HGP.out.2.2 e.symm)
        have HB2 : Hid (Below w.heap.size w w2) := HB1.out.trans (hks.below (fun b hb => by cases hb; exact HGP.out.1) HB1.out.size)
        have hg2 : go < w2.heap.size := Nat.lt_of_lt_of_le hg1 hks.size
        clear hks h91 h92 hm
        have HMQ : Hid (mv (fun i => if i = k then (Y : Int) else P i) ⟨op, wd, vk, (pa : Int), nb, nc⟩ = N) := HMV.out _ (fun p hp => by show (if p = k then (Y : Int) else P p) = _; rw [if_neg (by omega)]; exact HP.out p hp)
        go_wp2_with fail
        rw [← hw2]
        clear hw2 d1 c1 c3
        refine (iMoved ⟨op, wd, vk, (pa : Int), nb, nc⟩ _ gp l.length l.length (fun i => if i = k then (Y : Int) else P i) HR2.out (fun p hp => by have := HDP.out p hp; omega) hl2).mono ?_
        rw [HMQ.out]
        rintro e w3 ⟨rfl, hb3⟩
        have HO3 : Hid (Ou w3 go l k) := HO2.out.below hg2 hb3
        have HR3 : Hid (Row w3 gp l.length (fun i => .int .i64 ((fun i => if i = k then (Y : Int) else P i) i))) := (HR2.out).below hb3
        have HB3 : Hid (Below w.heap.size w w3) := HB2.out.trans (hb3.mono HB2.out.size)
        have hg3 : go < w3.heap.size := Nat.lt_of_lt_of_le hg2 hb3.size
        obtain ⟨v, ⟨q0, q1, q2, q3, q4, q5⟩, _⟩ := HO3.out.at_ k hlt
        have f0 := HO3.out.fr (k * 6) (by omega)
        have f1 := HO3.out.fr (k * 6 + 1) (by omega)
        have f2 := HO3.out.fr (k * 6 + 2) (by omega)
        have f3 := HO3.out.fr (k * 6 + 3) (by omega)
        have f4 := HO3.out.fr (k * 6 + 4) (by omega)
        have f5 := HO3.out.fr (k * 6 + 5) (by omega)
        clear hb3 b0 b1 b2 b3 b4 b5 HR1 HO1 HX1 HB1 HR2 HO2 HB2 hq
        go_wp2_with fail
        go_roundw
        case rel =>
          have hk9 : Kept (fun b => b = go) w3 (setNode w3 go (k * 6) N) := setNode_keptS (S := fun b => b = go) (b := go) (p := k * 6) (n := N) rfl (Kept.refl _ _)
          refine ⟨k + 1, by omega, by go_num, ⟨_, HR3.out.kept hk9 (fun e => HGP.out.2.2 e), fun p hp => ?_⟩, HOS.out _ HO3.out, HB3.out.trans (hk9.below (fun b hb => by cases hb; exact HGP.out.2.1) HB3.out.size), Nat.lt_of_lt_of_le hg3 hk9.size⟩
          show (if p = k then (Y : Int) else P p) = _
          by_cases e : p = k
          · subst e
            rw [if_pos rfl, HKB.out]
          · rw [if_neg e]
            exact HP.out p (by omega)
        case measure => simp [intOf]; omega
    · have e : k = l.length := by omega
      subst e
      have hbe := bel_le (down_of HT.out) (l.length - 1) (by omega)
      obtain ⟨c1', _⟩ := HR.out (l.length - 1) (by omega)
      have c1 : wr.cell? ⟨gp, l.length - 1, none⟩ = some (.int .i64 (P (l.length - 1))) := c1'
      clear c1'
      rw [HP.out _ (by omega)] at c1
      have HCU : Hid (cutL l = thrTo l (bel l (l.length - 1) + 1)) := rfl
      obtain ⟨Y, hY⟩ : ∃ Y, Y = bel l (l.length - 1) := ⟨_, rfl⟩
      rw [← hY] at c1 HCU hbe
      have hy1 : Y < l.length := by omega
      have HNC : Hid (Nodes wr (some ⟨go, 0, none⟩) (cutL l)) := by rw [HCU.out]; exact HO.out.nodes (n := Y + 1) (by omega) (by omega) hl2
      have HCL : Hid ((cutL l).length = Y + 1) := by show _ = _; rw [HCU.out, thrTo_length]
      have HPC : Hid (Calls Try.prog 44 #[.slice (some ⟨go, 0, none⟩) (Y + 1) l.length] wr fun e w' => (∃ a' c', e = .returned (.slice a' (restL l).length c') ∧ WNodes w' wr.heap.size a' (restL l) ∧ (restL l).length ≤ c') ∧ Below wr.heap.size wr w') := by
        have h9 := HPR.out wr (some ⟨go, 0, none⟩) (cutL l) l.length HNC.out (by rw [HCL.out]; omega) (by rw [HCL.out]; omega)
        rw [HCL.out] at h9
        exact h9
      have hw1 : IntKind.i64.wrap ((l.length : Int) - 1) = (l.length : Int) - 1 := by rw [IntKind.wrap_i64] <;> omega
      have hy2 : (Y : Int) + 1 ≤ (l.length : Int) := by omega
      have hz1 : (l.length : Int) - 1 < (l.length : Int) := by omega
      have hz2 : (0 : Int) ≤ (l.length : Int) - 1 := by omega
      clear hbe hY HNC HCU
      go_wp2_with fail
      refine HPC.out.mono ?_
      rintro e w3 ⟨⟨a', c', rfl, hw3, hc3⟩, hb3⟩
      have HW3 : Hid (WNodes w3 w.heap.size a' (restL l)) := by
        refine ⟨hw3.1, ?_⟩
        rcases hw3.2 with h0 | ⟨b, o, he, hB, hc⟩
        · exact .inl h0
        · exact .inr ⟨b, o, he, Nat.le_trans HB.out.size hB, hc⟩
      have HC3 : Hid ((restL l).length ≤ c') := hc3
      have HB3 : Hid (Below w.heap.size w w3) := HB.out.trans (hb3.mono HB.out.size)
      clear hw3 hc3 hb3
      go_wp2_with fail
      go_ret
      exact ⟨⟨_, _, rfl, HW3.out, HC3.out⟩, HB3.out⟩

end Go.Proofs.Ytebejleeadofcaa.Fq3

/- Small texts of mine, one behind the other. -/
import Derived.Deep.RegionWith
import Derived.Test.YtbnjndloeflgiaaGreatRows
import Derived.WalkKit
import Derived.Deep.QuietTactic
import Derived.BigQuiet
import Derived.Test.YtbnjndloeflgiaaGreatPkTA19
import Derived.Test.YtbnjndloeflgiaaGreatPkTA20
import Derived.Test.YtbnjndloeflgiaaGreatPkTA6
import Derived.Test.YtbnjndloeflgiaaGreatPkTA0
/- The walk of the program's FrontOk: the face. -/
namespace Go.Proofs.YtbnjndloeflgiaaGreat.Fp2
open Go.RowKit
open Nd0 Qa0 Tm0 Tm1 Tm2 Tm5 Tm6 Tm8 Rw0 Rw1 Kp1 Fr0 Fp1
open Fm1 (quAt)
open Lx1 (ITermOk)
open Lx2 (IReached)
open Ws1 (ret_int ret_bool)
set_option linter.unusedVariables false

def IFrontOk : Prop := ∀ (w : World) (aq a : Option Addr) (q : List Qu) (l : List Nd) (cq c : Nat), Qus w aq q → q.length ≤ 1048576 → Nodes w a l → l.length ≤ c → l.length ≤ 1048576 →
    Calls Tryz.prog 24 #[.slice aq q.length cq, .slice a l.length c] w fun e w' => e = .returned (.bool (frontOkB q l)) ∧ Below w.heap.size w w'

set_option maxRecDepth 100000 in
set_option maxHeartbeats 4000000 in
theorem iFrontOk (hTO : ITermOk) (hRE : IReached) : IFrontOk := by
  intro w aq a q l cq c hQ hql hN hcap hlen
  have HN : Hid (Nodes w a l) := hN
  have HQS : Hid (Qus w aq q) := hQ
  have HTO : Hid ITermOk := hTO
  have HRE : Hid IReached := hRE
  have HCAP : Hid (l.length ≤ c) := hcap
  clear hN hQ hTO hRE hcap
  go_enter Tryz.func24, Tryz.ntmps24
  go_wp2_with fail
  refine (iWidthsOf _ aq q cq HQS.out hql).mono ?_
  rintro e w1 ⟨⟨r, b, rfl, hwf⟩, hb1⟩
  have HWF : Hid (WF q r b) := hwf
  have HB1 : Hid (Below w.heap.size w w1) := hb1
  clear hwf hb1
  unfold aggI
  obtain ⟨W, hW⟩ : ∃ W : World, W = w1.alloc (.cells #[.int .i64 (r 0), .int .i64 (r 1), .int .i64 (r 2), .int .i64 (r 3), .int .i64 (r 4), .int .i64 (r 5), .int .i64 (r 6), .int .i64 (r 7)] 63) := ⟨_, rfl⟩
  obtain ⟨g, hg⟩ : ∃ g : Nat, g = w1.heap.size := ⟨_, rfl⟩
  have HRW : Hid (Row W g 8 (fun i => .int .i64 (r i))) := by
    rw [hW, hg]
    exact Row.new _ _ _ _ _ (fun i hi => by
      rcases (show i = 0 ∨ i = 1 ∨ i = 2 ∨ i = 3 ∨ i = 4 ∨ i = 5 ∨ i = 6 ∨ i = 7 by omega) with h | h | h | h | h | h | h | h <;> subst h <;> rfl)
  have HBW : Hid (Below w.heap.size w W) := by rw [hW]; exact HB1.out.alloc HB1.out.size _
  cases hb : b
  · have HF : Hid (frontOkB q l = false) := by
      have h1 := HWF.out.1
      rw [hb] at h1
      refine fo_wid (k := q.length) (Nat.le_refl _) ?_
      cases hw : wqTo q q.length with
      | none => rfl
      | some ws => rw [hw] at h1; cases h1
    go_wp2
    go_ret
    rw [← hW]
    exact ⟨ret_bool HF.out.symm, HBW.out⟩
  · obtain ⟨ws, HWS, HRV⟩ : ∃ ws, Hid (wqTo q q.length = some ws) ∧ Hid (∀ v : Nat, v < 8 → r v = wd ws (v : Int)) := by
      have h1 := HWF.out.1
      rw [hb] at h1
      cases hw : wqTo q q.length with
      | none => rw [hw] at h1; cases h1
      | some ws => exact ⟨ws, rfl, HWF.out.2 ws hw⟩
    clear HWF
    go_wp2_with fail
    rw [← hW, ← hg]
    clear hW hg hb
    refine (HTO.out W a l c (HN.out.below HBW.out) HCAP.out hlen).mono ?_
    rintro e w2 ⟨rfl, hb2⟩
    have HB2 : Hid (Below w.heap.size w w2) := HBW.out.trans (hb2.mono HBW.out.size)
    have HRW2 : Hid (Row w2 g 8 (fun i => .int .i64 (r i))) := HRW.out.below hb2
    clear hb2
    cases hT : termOk l
    · have HF : Hid (frontOkB q l = false) := fo_term hT
      go_wp2
      go_ret
      exact ⟨ret_bool HF.out.symm, HB2.out⟩
    · have HT : Hid (termOk l = true) := hT
      obtain ⟨hl1, hl2⟩ := term_len hT
      clear hT
      rcases (HN.out.below HB2.out).2 with h0 | ⟨xb, xo, rfl, hc⟩
      · omega
      have p1 := (hc (l.length - 1) (by omega)).c1
      rw [nth_get (by omega : l.length - 1 < l.length)] at p1
      clear hc
      have g1 : (0 : Int) ≤ (l.length : Int) - 1 := by omega
      have g2 : (l.length : Int) - 1 < (l.length : Int) := by omega
      have e1 : IntKind.i64.wrap ((l.length : Int) - 1) = (l.length : Int) - 1 := by rw [IntKind.wrap_i64] <;> omega
      cases hw1 : ((nth l (l.length - 1)).w != 1)
      rotate_left
      · have HF : Hid (frontOkB q l = false) := fo_root (by simpa using hw1)
        generalize (nth l (l.length - 1)).w = rw at p1 hw1
        go_wp2
        go_ret
        exact ⟨ret_bool HF.out.symm, HB2.out⟩
      · have hw1' : (nth l (l.length - 1)).w = 1 := by simpa using hw1
        have HW1 : Hid ((nth l (l.length - 1)).w = 1) := hw1'
        clear hw1'
        generalize (nth l (l.length - 1)).w = rw at p1 hw1
        go_wp2_with fail
        refine (iHasQ w2 _ l c (HN.out.below HB2.out) hlen).mono ?_
        rintro e w3 ⟨rfl, hb3⟩
        have HB3 : Hid (Below w.heap.size w w3) := HB2.out.trans (hb3.mono HB2.out.size)
        have HRW3 : Hid (Row w3 g 8 (fun i => .int .i64 (r i))) := HRW2.out.below hb3
        clear hb3 p1 g1 g2 e1 hw1
        cases hh : hasQ l
        rotate_left
        · have HF : Hid (frontOkB q l = false) := by
            obtain ⟨i, hi, hq⟩ := hasQ_yes hh
            exact fo_bad HWS.out hi (by unfold badF; rw [hq]; rfl)
          go_wp2
          go_ret
          exact ⟨ret_bool HF.out.symm, HB3.out⟩
        · have HNQ : Hid (∀ i, i < l.length → quant (nth l i).op = false) := hasQ_no hh
          have HREQ : Hid (reachedL l = reachTo l l.length) := by
            show _ = _
            unfold reachedL; rw [HT.out]; rfl
          have hRL : (reachedL l).length ≤ 80 := Nat.le_trans (reachedL_le l) hl2
          go_wp2_with fail
          refine (HRE.out w3 _ l c (HN.out.below HB3.out) HCAP.out hlen).mono ?_
          rintro e w4 ⟨⟨ra, rc, rfl, hri⟩, hb4⟩
          have HRI : Hid (Ints w4 ra (reachedL l)) := hri.ints
          have HB4 : Hid (Below w.heap.size w w4) := HB3.out.trans (hb4.mono HB3.out.size)
          have HRW4 : Hid (Row w4 g 8 (fun i => .int .i64 (r i))) := HRW3.out.below hb4
          have HRA : Hid (∀ m (h : m < (reachedL l).length), ∃ x : Nat, (reachedL l)[m] = (x : Int) ∧ x < l.length ∧ flag (reachL l) x = true ∧ (reachTo l x).length = m) := by
            show ∀ _, _
            intro m h
            have e := HREQ.out
            obtain ⟨x, h1, h2, h3, h4⟩ := reach_at l l.length m (by rw [← e]; exact h)
            exact ⟨x, by simp only [e]; exact h1, h2, h3, h4⟩
          clear hri hb4 hh
          go_wp2_with fail
          go_loopw [39] (fun x wr => ∃ m : Nat, m ≤ (reachedL l).length ∧ x = .int .i64 (m : Int) ∧ (∀ i, i < l.length → flag (reachL l) i = true → (reachTo l i).length < m → badF l ws i = false) ∧ Below w4.heap.size w4 wr) (fun x _ => (reachedL l).length - (intOf x).toNat)
          case atStart => exact ⟨0, Nat.zero_le _, rfl, fun i _ _ h => by omega, Below.refl _ _⟩
          case round =>
            obtain ⟨m, hm, rfl, hgood, hbr⟩ := hrel
            have HG : Hid (∀ i, i < l.length → flag (reachL l) i = true → (reachTo l i).length < m → badF l ws i = false) := hgood
            have HBR : Hid (Below w4.heap.size w4 wr) := hbr
            have HBT : Hid (Below w.heap.size w wr) := HB4.out.trans (hbr.mono HB4.out.size)
            clear hgood hbr
            by_cases hlt : m < (reachedL l).length
            · have hmz : (m : Int) < ((reachedL l).length : Int) := by omega
              obtain ⟨x, hx, hxl, hxf, hxm⟩ := HRA.out m hlt
              have hxz : (x : Int) < (l.length : Int) := by omega
              rcases (HRI.out.below HBR.out).2 with h0 | ⟨rb, ro, rfl, hrc⟩
              · omega
              have q0 := hrc m hlt
              rw [hx] at q0
              rcases (HN.out.below HBT.out).2 with h0 | ⟨xb', xo', he, hc⟩
              · omega
              cases he
              obtain ⟨p0, p1, p2, p3, p4, p5⟩ := hc x hxl
              rw [nth_get hxl] at p0 p1 p2 p3 p4 p5
              have HNO : Hid (badF l ws x = false → ∀ i, i < l.length → flag (reachL l) i = true → (reachTo l i).length < m + 1 → badF l ws i = false) := fun h i hi hf hlt2 => by
                by_cases e : (reachTo l i).length = m
                · have : i = x := reachTo_inj l hf hxf (by omega)
                  subst this; exact h
                · exact HG.out i hi hf (by omega)
              have HYES : Hid (badF l ws x = true → frontOkB q l = false) := fun h => fo_bad HWS.out hxl h
              have HBD : Hid (badF l ws x = ((nth l x).op == 1 && wd ws (nth l x).k != (nth l x).w)) := by
                show _ = _
                unfold badF
                rw [HNQ.out x hxl, hxf, Bool.false_or, Bool.true_and]
              have HSV : Hid ((nth l x).op = 1 ∨ quant (nth l x).op = true → 0 ≤ (nth l x).k ∧ (nth l x).k ≤ 7) := shape_var (term_node HT.out hxl)
              clear hc hrc hx HG
              generalize nth l x = n at p0 p1 p2 p3 p4 p5 HBD HSV
              obtain ⟨wn, hwn⟩ : ∃ wn : World, wn = wr.alloc (.cells #[.int .i64 n.op, .int .i64 n.w, .int .i64 n.k, .int .i64 n.a, .int .i64 n.b, .int .i64 n.c] 50) := ⟨_, rfl⟩
              obtain ⟨gn, hgn⟩ : ∃ gn : Nat, gn = wr.heap.size := ⟨_, rfl⟩
              have hbn : Below wr.heap.size wr wn := by rw [hwn]; exact (Below.refl _ _).alloc (Nat.le_refl _) _
              have HBN : Hid (Below w4.heap.size w4 wn) := HBR.out.trans (hbn.mono HBR.out.size)
              have HBNT : Hid (Below w.heap.size w wn) := HBT.out.trans (hbn.mono HBT.out.size)
              have n0 : wn.cell? ⟨gn, 0, none⟩ = some (.int .i64 n.op) := by rw [hwn, hgn, World.cell?_alloc_new]; rfl
              have n1 : wn.cell? ⟨gn, 1, none⟩ = some (.int .i64 n.w) := by rw [hwn, hgn, World.cell?_alloc_new]; rfl
              have n2 : wn.cell? ⟨gn, 2, none⟩ = some (.int .i64 n.k) := by rw [hwn, hgn, World.cell?_alloc_new]; rfl
              clear hbn
              cases ho : (n.op == 1)
              · have HB : Hid (badF l ws x = false) := by
                  show _ = _
                  rw [HBD.out, ho]; rfl
                go_wp2_with fail
                rw [← hwn, ← hgn]
                clear hwn hgn
                go_quiet (fail)
                go_wp2
                go_roundw
                case rel => exact ⟨m + 1, by omega, by go_num, HNO.out HB.out, below_drewN HBN.out _⟩
                case measure => simp [intOf]; omega
              · rw [ho] at HBD
                obtain ⟨hv0, hv7⟩ := HSV.out (.inl (by simpa using ho))
                clear HSV
                obtain ⟨kk, hkk⟩ := Int.eq_ofNat_of_zero_le hv0
                rw [hkk] at p2 n2 HBD hv7 hwn
                have hz8 : (kk : Int) < 8 := by omega
                obtain ⟨c1, _⟩ := (HRW4.out.below HBN.out) kk (by omega)
                dsimp only at c1
                rw [HRV.out kk (by omega)] at c1
                clear hkk hv0
                cases hne : (n.w != wd ws (kk : Int))
                · have HB : Hid (badF l ws x = false) := by
                    show _ = _
                    have h9 : (wd ws (kk : Int) != n.w) = false := by
                      have : n.w = wd ws (kk : Int) := by simpa using hne
                      rw [this]; simp
                    rw [HBD.out, h9]; rfl
                  generalize wd ws (kk : Int) = z at c1 hne
                  go_wp2_with fail
                  rw [← hwn, ← hgn]
                  clear hwn hgn
                  go_quiet (fail)
                  go_wp2
                  go_roundw
                  case rel => exact ⟨m + 1, by omega, by go_num, HNO.out HB.out, below_drewN HBN.out _⟩
                  case measure => simp [intOf]; omega
                · have HF : Hid (frontOkB q l = false) := HYES.out (by
                    have h9 : (wd ws (kk : Int) != n.w) = true := by
                      have : ¬ n.w = wd ws (kk : Int) := by simpa using hne
                      simpa using fun h : wd ws (kk : Int) = n.w => this h.symm
                    rw [HBD.out, h9]; rfl)
                  generalize wd ws (kk : Int) = z at c1 hne
                  go_wp2_with fail
                  rw [← hwn, ← hgn]
                  clear hwn hgn
                  go_quiet (fail)
                  go_wp2
                  go_ret
                  exact ⟨ret_bool HF.out.symm, below_drewN HBNT.out _⟩
            · have HF : Hid (frontOkB q l = true) := fo_yes HT.out HW1.out HWS.out (fun i hi => by
                cases hf : flag (reachL l) i with
                | true =>
                  refine HG.out i hi hf ?_
                  have h1 := reachTo_lt l hi hf
                  have h2 := HREQ.out
                  rw [h2] at hlt
                  omega
                | false =>
                  unfold badF
                  rw [HNQ.out i hi, hf]; rfl)
              go_wp2
              go_ret
              exact ⟨ret_bool HF.out.symm, HBT.out⟩

end Go.Proofs.YtbnjndloeflgiaaGreat.Fp2

/- The walks of the model's readers of numbers and words. -/
namespace Go.Proofs.YtbnjndloeflgiaaGreat.Ss1
open Go.RowKit
open Nd0 Tx0 Ss0
open Ws1 (sIn ret_int)
set_option linter.unusedVariables false

def tl (S : ByteArray) : List UInt8 := S.data.toList
theorem tl_bs (l : List UInt8) : tl (bs l) = l := by simp [tl, bs]
theorem tl_length (S : ByteArray) : (tl S).length = S.size := by unfold tl ByteArray.size; exact Array.length_toList
theorem tl_get (S : ByteArray) (k : Nat) (h : k < S.size) : S[k] = (tl S)[k]'(by rw [tl_length]; exact h) := rfl
theorem tl_take (S : ByteArray) (k : Nat) (h : k < S.size) : (tl S).take (k + 1) = (tl S).take k ++ [S[k]] := by
  rw [List.take_succ_eq_append_getElem (by rw [tl_length]; exact h)]; rfl

end Go.Proofs.YtbnjndloeflgiaaGreat.Ss1

/- TableOk of both sides; small functions of the laws over tables. -/
namespace Go.Proofs.YtbnjndloeflgiaaGreat.Tc2
open Go.RowKit
open Ta0 Ta1
open Ss0 (bs bs_size)
open Ss1 (tl tl_length tl_get tl_take tl_bs)
set_option linter.unusedVariables false

theorem ret_int {k : IntKind} {a b : Int} (h : a = b) : Ending.returned (.int k a) = .returned (.int k b) := by rw [h]
theorem ret_bool {a b : Bool} (h : a = b) : Ending.returned (.bool a) = .returned (.bool b) := by rw [h]
theorem wsh {n : Nat} (h : n ≤ 12) : IntKind.i64.wrap ((2 : Int) ^ n) = ((2 ^ n : Nat) : Int) := by
  have := p12 h
  rw [pcast, IntKind.wrap_i64] <;> omega
theorem below_drewN {B : Nat} {u w : World} (h : Below B u w) (n : Nat) : Below B u (w.drewN n) := ⟨h.os, h.tape, h.output, h.size, h.block⟩

set_option maxHeartbeats 400000 in
theorem sPow (n : Nat) (w : World) (h1 : n ≤ 12) :
    Calls Tryz.prog 34 #[.int .i64 (n : Int)] w fun e w' => e = .returned (.int .i64 ((2 ^ n : Nat) : Int)) ∧ w' = w := by
  go_enter Tryz.func34, Tryz.ntmps34
  go_wp2
  go_loop [3, 4] (fun x i => ∃ k : Nat, k ≤ n ∧ i = .int .i64 k ∧ x = .int .i64 ((2 ^ k : Nat) : Int)) (fun _ i => n - (intOf i).toNat)
  case atStart => exact ⟨0, Nat.zero_le _, rfl, rfl⟩
  case round =>
    obtain ⟨k, hk, rfl, rfl⟩ := hrel
    obtain ⟨hp, hl⟩ := p12 (n := k) (by omega)
    have HS : Hid (2 ^ (k + 1) = 2 * 2 ^ k) := by show _ = _; rw [Nat.pow_succ]; omega
    generalize hP : 2 ^ k = P at hp hl HS ⊢
    by_cases hlt : k < n
    · clear hP
      go_wp2
      go_round
      case rel => exact ⟨k + 1, by omega, by go_num, by rw [HS.out]; go_num⟩
      case measure => simp [intOf]; omega
    · have HP : Hid (2 ^ k = P) := hP
      clear hP
      go_wp2
      go_ret
      have : k = n := by omega
      subst this
      exact ⟨ret_int (by rw [pcast, HP.out]), rfl⟩

set_option maxHeartbeats 400000 in
theorem sIn (x a b : Int) (w : World) :
    Calls Tryz.prog 44 #[.int .i64 x, .int .i64 a, .int .i64 b] w fun e w' => e = .returned (.bool (decide (a ≤ x ∧ x ≤ b))) ∧ w' = w := by
  by_cases h1 : a ≤ x <;> by_cases h2 : x ≤ b
  all_goals
    go_enter Tryz.func44, Tryz.ntmps44
    go_wp2
    go_ret
    exact ⟨ret_bool (by simp <;> omega), rfl⟩

theorem sInT {x a b : Int} (w : World) (h : a ≤ x ∧ x ≤ b) :
    Calls Tryz.prog 44 #[.int .i64 x, .int .i64 a, .int .i64 b] w fun e w' => e = .returned (.bool true) ∧ w' = w := by
  have := sIn x a b w
  rwa [decide_eq_true h] at this
theorem sInF {x a b : Int} (w : World) (h : ¬ (a ≤ x ∧ x ≤ b)) :
    Calls Tryz.prog 44 #[.int .i64 x, .int .i64 a, .int .i64 b] w fun e w' => e = .returned (.bool false) ∧ w' = w := by
  have := sIn x a b w
  rwa [decide_eq_false h] at this

abbrev tv (N : Int) (S : ByteArray) : Value := .agg #[.int .i64 N, .string S]

set_option maxHeartbeats 2000000 in
theorem sTableOk (N : Int) (S : ByteArray) (w : World) (hS : S.size ≤ 1048576) :
    Calls Tryz.prog 43 #[tv N S] w fun e w' => e = .returned (.bool (tokB N (tl S))) ∧ Below w.heap.size w w' := by
  have HB : Hid (∀ k, Below w.heap.size w ((w.alloc (.cells #[.int .i64 N, .string S] 30)).drewN k)) := fun k => below_drewN ((Below.refl _ _).alloc (Nat.le_refl _) _) k
  by_cases hN : 0 ≤ N ∧ N ≤ 12
  · obtain ⟨n, rfl⟩ := Int.eq_ofNat_of_zero_le hN.1
    have HI : Hid (∀ W, Calls Tryz.prog 44 #[.int .i64 (n : Int), .int .i64 0, .int .i64 12] W fun e w' => e = .returned (.bool true) ∧ w' = W) := fun W => sInT W hN
    have hn : n ≤ 12 := by omega
    obtain ⟨hp, hl⟩ := p12 hn
    have HC : Hid (∀ W, Calls Tryz.prog 34 #[.int .i64 (n : Int)] W fun e w' => e = .returned (.int .i64 ((2 ^ n : Nat) : Int)) ∧ w' = W) := fun W => sPow n W hn
    have HL : Hid (S.size ≠ 2 ^ n → tokB (n : Int) (tl S) = false) := fun h => tok_len (by rw [tl_length, Int.toNat_natCast]; exact h)
    have HT : Hid (S.size = 2 ^ n → (∀ c ∈ tl S, c = 48 ∨ c = 49) → tokB (n : Int) (tl S) = true) := fun h k => decide_eq_true ⟨hN.1, hN.2, by rw [tl_length, Int.toNat_natCast]; exact h, k⟩
    clear hN
    generalize 2 ^ n = P at hp hl HC HL HT
    by_cases hs : S.size = P
    · have hsz : ((S.size : Int) != (P : Int)) = false := by rw [hs]; simp
      have HS : Hid (S.size = P) := hs
      have hS2 : S.size ≤ 4096 := by omega
      clear hs
      go_enter Tryz.func43, Tryz.ntmps43
      go_wp2_with fail
      go_quiet ((first | (go_at_call 44; exact Calls.quiet_of_same (HI.out _)) | (go_at_call 34; exact Calls.quiet_of_same (HC.out _))))
      go_wp2
      go_loop [3] (fun i => ∃ k : Nat, k ≤ S.size ∧ i = .int .i64 k ∧ ∀ c ∈ (tl S).take k, c = 48 ∨ c = 49) (fun i => S.size - (intOf i).toNat)
      case atStart => exact ⟨0, Nat.zero_le _, rfl, fun c hc => by simp at hc⟩
      case round =>
        obtain ⟨k, hk, rfl, hc⟩ := hrel
        have HK : Hid (∀ c ∈ (tl S).take k, c = 48 ∨ c = 49) := hc
        clear hc
        by_cases hlt : k < S.size
        · have hkz : (k : Int) < (S.size : Int) := by omega
          have HX : Hid ((tl S).take (k + 1) = (tl S).take k ++ [S[k]]) := tl_take S k hlt
          have HM : Hid (S[k] ∈ tl S) := by
            show _ ∈ _
            rw [tl_get S k hlt]; exact List.getElem_mem _
          by_cases h8 : S[k] = 48
          · have b8 : ((S[k].toNat : Int) != 48) = false := by rw [h8]; rfl
            have H8 : Hid (S[k] = 48 ∨ S[k] = 49) := .inl h8
            clear h8
            go_wp2
            go_round
            case rel => exact ⟨k + 1, by omega, by go_num, fun c hc => by
              rw [HX.out] at hc
              rcases List.mem_append.1 hc with h | h
              · exact HK.out c h
              · rw [List.mem_singleton.1 h]; exact H8.out⟩
            case measure => simp [intOf]; omega
          · have b8 : ((S[k].toNat : Int) != 48) = true := bne_iff_ne.2 fun e => h8 (UInt8.toNat_inj.1 (by have : (48 : UInt8).toNat = 48 := rfl; omega))
            by_cases h9 : S[k] = 49
            · have b9 : ((S[k].toNat : Int) != 49) = false := by rw [h9]; rfl
              have H8 : Hid (S[k] = 48 ∨ S[k] = 49) := .inr h9
              clear h8 h9
              go_wp2
              go_round
              case rel => exact ⟨k + 1, by omega, by go_num, fun c hc => by
                rw [HX.out] at hc
                rcases List.mem_append.1 hc with h | h
                · exact HK.out c h
                · rw [List.mem_singleton.1 h]; exact H8.out⟩
              case measure => simp [intOf]; omega
            · have b9 : ((S[k].toNat : Int) != 49) = true := bne_iff_ne.2 fun e => h9 (UInt8.toNat_inj.1 (by have : (49 : UInt8).toNat = 49 := rfl; omega))
              have HF : Hid (tokB (n : Int) (tl S) = false) := tok_sign HM.out ⟨h8, h9⟩
              clear h8 h9
              go_wp2
              go_ret
              exact ⟨ret_bool HF.out.symm, HB.out _⟩
        · have HF : Hid (tokB (n : Int) (tl S) = true) := HT.out HS.out (by
            have := HK.out
            rwa [List.take_of_length_le (by rw [tl_length]; omega)] at this)
          go_wp2
          go_ret
          exact ⟨ret_bool HF.out.symm, HB.out _⟩
    · have hsz : ((S.size : Int) != (P : Int)) = true := bne_iff_ne.2 (by omega)
      have HF : Hid (tokB (n : Int) (tl S) = false) := HL.out hs
      clear hs
      go_enter Tryz.func43, Tryz.ntmps43
      go_wp2_with fail
      go_quiet ((first | (go_at_call 44; exact Calls.quiet_of_same (HI.out _)) | (go_at_call 34; exact Calls.quiet_of_same (HC.out _))))
      go_wp2
      go_ret
      exact ⟨ret_bool HF.out.symm, HB.out _⟩
  · have HI : Hid (∀ W, Calls Tryz.prog 44 #[.int .i64 N, .int .i64 0, .int .i64 12] W fun e w' => e = .returned (.bool false) ∧ w' = W) := fun W => sInF W hN
    have HF : Hid (tokB N (tl S) = false) := tok_no hN
    clear hN
    go_enter Tryz.func43, Tryz.ntmps43
    go_wp2_with fail
    go_quiet ((go_at_call 44; exact Calls.quiet_of_same (HI.out _)))
    go_wp2
    go_ret
    exact ⟨ret_bool HF.out.symm, HB.out _⟩

set_option maxHeartbeats 2000000 in
theorem iTableOk (N : Int) (S : ByteArray) (w : World) (hS : S.size ≤ 1048576) :
    Calls Tryz.prog 9 #[tv N S] w fun e w' => e = .returned (.bool (tokB N (tl S))) ∧ Below w.heap.size w w' := by
  have HB : Hid (∀ k, Below w.heap.size w ((w.alloc (.cells #[.int .i64 N, .string S] 30)).drewN k)) := fun k => below_drewN ((Below.refl _ _).alloc (Nat.le_refl _) _) k
  by_cases h0 : N < 0
  · have HF : Hid (tokB N (tl S) = false) := tok_no (by omega)
    go_enter Tryz.func9, Tryz.ntmps9
    go_wp2_with fail
    go_quiet (fail)
    go_wp2
    go_ret
    exact ⟨ret_bool HF.out.symm, HB.out _⟩
  by_cases h1 : 12 < N
  · have HF : Hid (tokB N (tl S) = false) := tok_no (by omega)
    go_enter Tryz.func9, Tryz.ntmps9
    go_wp2_with fail
    go_quiet (fail)
    go_wp2
    go_ret
    exact ⟨ret_bool HF.out.symm, HB.out _⟩
  obtain ⟨n, rfl⟩ := Int.eq_ofNat_of_zero_le (by omega : 0 ≤ N)
  have hn : n ≤ 12 := by omega
  obtain ⟨hp, hl⟩ := p12 hn
  have HL : Hid (S.size ≠ 2 ^ n → tokB (n : Int) (tl S) = false) := fun h => tok_len (by rw [tl_length, Int.toNat_natCast]; exact h)
  have HT : Hid (S.size = 2 ^ n → (∀ c ∈ tl S, c = 48 ∨ c = 49) → tokB (n : Int) (tl S) = true) := fun h k => decide_eq_true ⟨by omega, by omega, by rw [tl_length, Int.toNat_natCast]; exact h, k⟩
  have hw := wsh hn
  have hd0 : decide ((n : Int) < 0) = false := decide_eq_false (by omega)
  have hd1 : decide (12 < (n : Int)) = false := decide_eq_false (by omega)
  generalize 2 ^ n = P at hp hl HL HT hw
  by_cases hs : S.size = P
  · have hsz : ((S.size : Int) != (P : Int)) = false := by rw [hs]; simp
    have HS : Hid (S.size = P) := hs
    have hS2 : S.size ≤ 4096 := by omega
    clear hs
    go_enter Tryz.func9, Tryz.ntmps9
    go_wp2_with fail
    go_quiet (fail)
    go_wp2
    go_loop [24] (fun i => ∃ k : Nat, k ≤ S.size ∧ i = .int .i64 k ∧ ∀ c ∈ (tl S).take k, c = 48 ∨ c = 49) (fun i => S.size - (intOf i).toNat)
    case atStart => exact ⟨0, Nat.zero_le _, rfl, fun c hc => by simp at hc⟩
    case round =>
      obtain ⟨k, hk, rfl, hc⟩ := hrel
      have HK : Hid (∀ c ∈ (tl S).take k, c = 48 ∨ c = 49) := hc
      clear hc
      by_cases hlt : k < S.size
      · have hkz : (k : Int) < (S.size : Int) := by omega
        have HX : Hid ((tl S).take (k + 1) = (tl S).take k ++ [S[k]]) := tl_take S k hlt
        have HM : Hid (S[k] ∈ tl S) := by
          show _ ∈ _
          rw [tl_get S k hlt]; exact List.getElem_mem _
        by_cases h8 : S[k] = 48
        · have b8 : ((S[k].toNat : Int) != 48) = false := by rw [h8]; rfl
          have H8 : Hid (S[k] = 48 ∨ S[k] = 49) := .inl h8
          clear h8
          go_wp2
          go_round
          case rel => exact ⟨k + 1, by omega, by go_num, fun c hc => by
            rw [HX.out] at hc
            rcases List.mem_append.1 hc with h | h
            · exact HK.out c h
            · rw [List.mem_singleton.1 h]; exact H8.out⟩
          case measure => simp [intOf]; omega
        · have b8 : ((S[k].toNat : Int) != 48) = true := bne_iff_ne.2 fun e => h8 (UInt8.toNat_inj.1 (by have : (48 : UInt8).toNat = 48 := rfl; omega))
          by_cases h9 : S[k] = 49
          · have b9 : ((S[k].toNat : Int) != 49) = false := by rw [h9]; rfl
            have H8 : Hid (S[k] = 48 ∨ S[k] = 49) := .inr h9
            clear h8 h9
            go_wp2
            go_round
            case rel => exact ⟨k + 1, by omega, by go_num, fun c hc => by
              rw [HX.out] at hc
              rcases List.mem_append.1 hc with h | h
              · exact HK.out c h
              · rw [List.mem_singleton.1 h]; exact H8.out⟩
            case measure => simp [intOf]; omega
          · have b9 : ((S[k].toNat : Int) != 49) = true := bne_iff_ne.2 fun e => h9 (UInt8.toNat_inj.1 (by have : (49 : UInt8).toNat = 49 := rfl; omega))
            have HF : Hid (tokB (n : Int) (tl S) = false) := tok_sign HM.out ⟨h8, h9⟩
            clear h8 h9
            go_wp2
            go_ret
            exact ⟨ret_bool HF.out.symm, HB.out _⟩
      · have HF : Hid (tokB (n : Int) (tl S) = true) := HT.out HS.out (by
          have := HK.out
          rwa [List.take_of_length_le (by rw [tl_length]; omega)] at this)
        go_wp2
        go_ret
        exact ⟨ret_bool HF.out.symm, HB.out _⟩
  · have hsz : ((S.size : Int) != (P : Int)) = true := bne_iff_ne.2 (by omega)
    have HF : Hid (tokB (n : Int) (tl S) = false) := HL.out hs
    clear hs
    go_enter Tryz.func9, Tryz.ntmps9
    go_wp2_with fail
    go_quiet (fail)
    go_wp2
    go_ret
    exact ⟨ret_bool HF.out.symm, HB.out _⟩

end Go.Proofs.YtbnjndloeflgiaaGreat.Tc2

/- Small functions of the laws over tables; the exact law of TableOk. -/
namespace Go.Proofs.YtbnjndloeflgiaaGreat.Tc3
open Go.RowKit
open Ta0 Ta1 Tc2
open Ss0 (bs bs_size)
open Ss1 (tl tl_length tl_get tl_take tl_bs)
set_option linter.unusedVariables false

end Go.Proofs.YtbnjndloeflgiaaGreat.Tc3

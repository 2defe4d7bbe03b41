/- Small texts of mine, one behind the other. -/
import Derived.Test.YtejoeahehljhnaaGreatRows
import Derived.WalkKit
import Derived.WalkSpells
import Derived.Stop.Asserts
import Derived.Deep.MidRow
import Derived.Deep.AppendLies
import Derived.OwnWalk
import Derived.RangeFuncNested
import Derived.RangeFuncBound
import Derived.RangeFuncCalls
import Derived.RangeFuncLeaves
import Derived.Shelf.Abstract
import Derived.Shelf.RegionOpen
import Derived.OwnWalkIn
import Derived.TacticsInMore
import Derived.LoopNIn
import Derived.LoopIn
import Derived.Test.YtejoeahehljhnaaGreatFp1
import Derived.Test.YtejoeahehljhnaaGreatPkIQ0
import Derived.Test.YtejoeahehljhnaaGreatPkIQ23
import Derived.Test.YtejoeahehljhnaaGreatPkIQ21
import Derived.Test.YtejoeahehljhnaaGreatPkIQ4
import Derived.Test.YtejoeahehljhnaaGreatPkIQ19
/- The walk of the program's FrontOk: the face. -/
namespace Go.Proofs.YtejoeahehljhnaaGreat.Fp2
open Go.RowKit
open Nd0 Qa0 Tm0 Tm1 Tm2 Tm5 Tm6 Tm8 Rw0 Rw1 Kp1 Fr0 Fp1
open Fm1 (quAt)
open Lx1 (ITermOk)
open Lx2 (IReached)
open Ws1 (ret_int ret_bool)
set_option linter.unusedVariables false

def IFrontOk : Prop := ∀ (w : World) (aq a : Option Addr) (q : List Qu) (l : List Nd) (cq c : Nat), Qus w aq q → q.length ≤ 1048576 → Nodes w a l → l.length ≤ c → l.length ≤ 1048576 →
    Calls Tryz.prog 20 #[.slice aq q.length cq, .slice a l.length c] w fun e w' => e = .returned (.bool (frontOkB q l)) ∧ Below w.heap.size w w'

set_option maxRecDepth 100000 in
set_option maxHeartbeats 4000000 in
theorem iFrontOk (hTO : ITermOk) (hRE : IReached) : IFrontOk := by
  intro w aq a q l cq c hQ hql hN hcap hlen
  have HN : Hid (Nodes w a l) := hN
  have HQS : Hid (Qus w aq q) := hQ
  have HTO : Hid ITermOk := hTO
  have HRE : Hid IReached := hRE
  have HCAP : Hid (l.length ≤ c) := hcap
  clear hN hQ hTO hRE hcap
  go_enter Tryz.func20, Tryz.ntmps20
  go_wp2_with fail
  refine (iWidthsOf _ aq q cq HQS.out hql).mono ?_
  rintro e w1 ⟨⟨r, b, rfl, hwf⟩, hb1⟩
  have HWF : Hid (WF q r b) := hwf
  have HB1 : Hid (Below w.heap.size w w1) := hb1
  clear hwf hb1
  unfold aggI
  obtain ⟨W, hW⟩ : ∃ W : World, W = w1.alloc (.cells #[.int .i64 (r 0), .int .i64 (r 1), .int .i64 (r 2), .int .i64 (r 3), .int .i64 (r 4), .int .i64 (r 5), .int .i64 (r 6), .int .i64 (r 7)] 54) := ⟨_, rfl⟩
  obtain ⟨g, hg⟩ : ∃ g : Nat, g = w1.heap.size := ⟨_, rfl⟩
  have HRW : Hid (Row W g 8 (fun i => .int .i64 (r i))) := by
    rw [hW, hg]
    exact Row.new _ _ _ _ _ (fun i hi => by
      rcases (show i = 0 ∨ i = 1 ∨ i = 2 ∨ i = 3 ∨ i = 4 ∨ i = 5 ∨ i = 6 ∨ i = 7 by omega) with h | h | h | h | h | h | h | h <;> subst h <;> rfl)
  have HBW : Hid (Below w.heap.size w W) := by rw [hW]; exact HB1.out.alloc HB1.out.size _
  cases hb : b
  · have HF : Hid (frontOkB q l = false) := by
      have h1 := HWF.out.1
      rw [hb] at h1
      refine fo_wid (k := q.length) (Nat.le_refl _) ?_
      cases hw : wqTo q q.length with
      | none => rfl
      | some ws => rw [hw] at h1; cases h1
    go_wp2
    go_ret
    rw [← hW]
    exact ⟨ret_bool HF.out.symm, HBW.out⟩
  · obtain ⟨ws, HWS, HRV⟩ : ∃ ws, Hid (wqTo q q.length = some ws) ∧ Hid (∀ v : Nat, v < 8 → r v = wd ws (v : Int)) := by
      have h1 := HWF.out.1
      rw [hb] at h1
      cases hw : wqTo q q.length with
      | none => rw [hw] at h1; cases h1
      | some ws => exact ⟨ws, rfl, HWF.out.2 ws hw⟩
    clear HWF
    go_wp2_with fail
    rw [← hW, ← hg]
    clear hW hg hb
    refine (HTO.out W a l c (HN.out.below HBW.out) HCAP.out hlen).mono ?_
    rintro e w2 ⟨rfl, hb2⟩
    have HB2 : Hid (Below w.heap.size w w2) := HBW.out.trans (hb2.mono HBW.out.size)
    have HRW2 : Hid (Row w2 g 8 (fun i => .int .i64 (r i))) := HRW.out.below hb2
    clear hb2
    cases hT : termOk l
    · have HF : Hid (frontOkB q l = false) := fo_term hT
      go_wp2
      go_ret
      exact ⟨ret_bool HF.out.symm, HB2.out⟩
    · have HT : Hid (termOk l = true) := hT
      obtain ⟨hl1, hl2⟩ := term_len hT
      clear hT
      rcases (HN.out.below HB2.out).2 with h0 | ⟨xb, xo, rfl, hc⟩
      · omega
      have p1 := (hc (l.length - 1) (by omega)).c1
      rw [nth_get (by omega : l.length - 1 < l.length)] at p1
      clear hc
      have g1 : (0 : Int) ≤ (l.length : Int) - 1 := by omega
      have g2 : (l.length : Int) - 1 < (l.length : Int) := by omega
      have e1 : IntKind.i64.wrap ((l.length : Int) - 1) = (l.length : Int) - 1 := by rw [IntKind.wrap_i64] <;> omega
      cases hw1 : ((nth l (l.length - 1)).w != 1)
      rotate_left
      · have HF : Hid (frontOkB q l = false) := fo_root (by simpa using hw1)
        generalize (nth l (l.length - 1)).w = rw at p1 hw1
        go_wp2
        go_ret
        exact ⟨ret_bool HF.out.symm, HB2.out⟩
      · have hw1' : (nth l (l.length - 1)).w = 1 := by simpa using hw1
        have HW1 : Hid ((nth l (l.length - 1)).w = 1) := hw1'
        clear hw1'
        generalize (nth l (l.length - 1)).w = rw at p1 hw1
        go_wp2_with fail
        refine (iHasQ w2 _ l c (HN.out.below HB2.out) hlen).mono ?_
        rintro e w3 ⟨rfl, hb3⟩
        have HB3 : Hid (Below w.heap.size w w3) := HB2.out.trans (hb3.mono HB2.out.size)
        have HRW3 : Hid (Row w3 g 8 (fun i => .int .i64 (r i))) := HRW2.out.below hb3
        clear hb3 p1 g1 g2 e1 hw1
        cases hh : hasQ l
        rotate_left
        · have HF : Hid (frontOkB q l = false) := by
            obtain ⟨i, hi, hq⟩ := hasQ_yes hh
            exact fo_bad HWS.out hi (by unfold badF; rw [hq]; rfl)
          go_wp2
          go_ret
          exact ⟨ret_bool HF.out.symm, HB3.out⟩
        · have HNQ : Hid (∀ i, i < l.length → quant (nth l i).op = false) := hasQ_no hh
          have HREQ : Hid (reachedL l = reachTo l l.length) := by
            show _ = _
            unfold reachedL; rw [HT.out]; rfl
          have hRL : (reachedL l).length ≤ 80 := Nat.le_trans (reachedL_le l) hl2
          go_wp2_with fail
          refine (HRE.out w3 _ l c (HN.out.below HB3.out) HCAP.out hlen).mono ?_
          rintro e w4 ⟨⟨ra, rc, rfl, hri⟩, hb4⟩
          have HRI : Hid (Ints w4 ra (reachedL l)) := hri.ints
          have HB4 : Hid (Below w.heap.size w w4) := HB3.out.trans (hb4.mono HB3.out.size)
          have HRW4 : Hid (Row w4 g 8 (fun i => .int .i64 (r i))) := HRW3.out.below hb4
          have HRA : Hid (∀ m (h : m < (reachedL l).length), ∃ x : Nat, (reachedL l)[m] = (x : Int) ∧ x < l.length ∧ flag (reachL l) x = true ∧ (reachTo l x).length = m) := by
            show ∀ _, _
            intro m h
            have e := HREQ.out
            obtain ⟨x, h1, h2, h3, h4⟩ := reach_at l l.length m (by rw [← e]; exact h)
            exact ⟨x, by simp only [e]; exact h1, h2, h3, h4⟩
          clear hri hb4 hh
          go_wp2_with fail
          go_loopw [39] (fun x wr => ∃ m : Nat, m ≤ (reachedL l).length ∧ x = .int .i64 (m : Int) ∧ (∀ i, i < l.length → flag (reachL l) i = true → (reachTo l i).length < m → badF l ws i = false) ∧ Below w4.heap.size w4 wr) (fun x _ => (reachedL l).length - (intOf x).toNat)
          case atStart => exact ⟨0, Nat.zero_le _, rfl, fun i _ _ h => by omega, Below.refl _ _⟩
          case round =>
            obtain ⟨m, hm, rfl, hgood, hbr⟩ := hrel
            have HG : Hid (∀ i, i < l.length → flag (reachL l) i = true → (reachTo l i).length < m → badF l ws i = false) := hgood
            have HBR : Hid (Below w4.heap.size w4 wr) := hbr
            have HBT : Hid (Below w.heap.size w wr) := HB4.out.trans (hbr.mono HB4.out.size)
            clear hgood hbr
            by_cases hlt : m < (reachedL l).length
            · have hmz : (m : Int) < ((reachedL l).length : Int) := by omega
              obtain ⟨x, hx, hxl, hxf, hxm⟩ := HRA.out m hlt
              have hxz : (x : Int) < (l.length : Int) := by omega
              rcases (HRI.out.below HBR.out).2 with h0 | ⟨rb, ro, rfl, hrc⟩
              · omega
              have q0 := hrc m hlt
              rw [hx] at q0
              rcases (HN.out.below HBT.out).2 with h0 | ⟨xb', xo', he, hc⟩
              · omega
              cases he
              obtain ⟨p0, p1, p2, p3, p4, p5⟩ := hc x hxl
              rw [nth_get hxl] at p0 p1 p2 p3 p4 p5
              have HNO : Hid (badF l ws x = false → ∀ i, i < l.length → flag (reachL l) i = true → (reachTo l i).length < m + 1 → badF l ws i = false) := fun h i hi hf hlt2 => by
                by_cases e : (reachTo l i).length = m
                · have : i = x := reachTo_inj l hf hxf (by omega)
                  subst this; exact h
                · exact HG.out i hi hf (by omega)
              have HYES : Hid (badF l ws x = true → frontOkB q l = false) := fun h => fo_bad HWS.out hxl h
              have HBD : Hid (badF l ws x = ((nth l x).op == 1 && wd ws (nth l x).k != (nth l x).w)) := by
                show _ = _
                unfold badF
                rw [HNQ.out x hxl, hxf, Bool.false_or, Bool.true_and]
              have HSV : Hid ((nth l x).op = 1 ∨ quant (nth l x).op = true → 0 ≤ (nth l x).k ∧ (nth l x).k ≤ 7) := shape_var (term_node HT.out hxl)
              clear hc hrc hx HG
              generalize nth l x = n at p0 p1 p2 p3 p4 p5 HBD HSV
              obtain ⟨wn, hwn⟩ : ∃ wn : World, wn = wr.alloc (.cells #[.int .i64 n.op, .int .i64 n.w, .int .i64 n.k, .int .i64 n.a, .int .i64 n.b, .int .i64 n.c] 43) := ⟨_, rfl⟩
              obtain ⟨gn, hgn⟩ : ∃ gn : Nat, gn = wr.heap.size := ⟨_, rfl⟩
              have hbn : Below wr.heap.size wr wn := by rw [hwn]; exact (Below.refl _ _).alloc (Nat.le_refl _) _
              have HBN : Hid (Below w4.heap.size w4 wn) := HBR.out.trans (hbn.mono HBR.out.size)
              have HBNT : Hid (Below w.heap.size w wn) := HBT.out.trans (hbn.mono HBT.out.size)
              have n0 : wn.cell? ⟨gn, 0, none⟩ = some (.int .i64 n.op) := by rw [hwn, hgn, World.cell?_alloc_new]; rfl
              have n1 : wn.cell? ⟨gn, 1, none⟩ = some (.int .i64 n.w) := by rw [hwn, hgn, World.cell?_alloc_new]; rfl
              have n2 : wn.cell? ⟨gn, 2, none⟩ = some (.int .i64 n.k) := by rw [hwn, hgn, World.cell?_alloc_new]; rfl
              clear hbn
              cases ho : (n.op == 1)
              · have HB : Hid (badF l ws x = false) := by
                  show _ = _
                  rw [HBD.out, ho]; rfl
                go_wp2_with fail
                rw [← hwn, ← hgn]
                clear hwn hgn
                go_quiet (fail)
                go_wp2
                go_roundw
                case rel => exact ⟨m + 1, by omega, by go_num, HNO.out HB.out, below_drewN HBN.out _⟩
                case measure => simp [intOf]; omega
              · rw [ho] at HBD
                obtain ⟨hv0, hv7⟩ := HSV.out (.inl (by simpa using ho))
                clear HSV
                obtain ⟨kk, hkk⟩ := Int.eq_ofNat_of_zero_le hv0
                rw [hkk] at p2 n2 HBD hv7 hwn
                have hz8 : (kk : Int) < 8 := by omega
                obtain ⟨c1, _⟩ := (HRW4.out.below HBN.out) kk (by omega)
                dsimp only at c1
                rw [HRV.out kk (by omega)] at c1
                clear hkk hv0
                cases hne : (n.w != wd ws (kk : Int))
                · have HB : Hid (badF l ws x = false) := by
                    show _ = _
                    have h9 : (wd ws (kk : Int) != n.w) = false := by
                      have : n.w = wd ws (kk : Int) := by simpa using hne
                      rw [this]; simp
                    rw [HBD.out, h9]; rfl
                  generalize wd ws (kk : Int) = z at c1 hne
                  go_wp2_with fail
                  rw [← hwn, ← hgn]
                  clear hwn hgn
                  go_quiet (fail)
                  go_wp2
                  go_roundw
                  case rel => exact ⟨m + 1, by omega, by go_num, HNO.out HB.out, below_drewN HBN.out _⟩
                  case measure => simp [intOf]; omega
                · have HF : Hid (frontOkB q l = false) := HYES.out (by
                    have h9 : (wd ws (kk : Int) != n.w) = true := by
                      have : ¬ n.w = wd ws (kk : Int) := by simpa using hne
                      simpa using fun h : wd ws (kk : Int) = n.w => this h.symm
                    rw [HBD.out, h9]; rfl)
                  generalize wd ws (kk : Int) = z at c1 hne
                  go_wp2_with fail
                  rw [← hwn, ← hgn]
                  clear hwn hgn
                  go_quiet (fail)
                  go_wp2
                  go_ret
                  exact ⟨ret_bool HF.out.symm, below_drewN HBNT.out _⟩
            · have HF : Hid (frontOkB q l = true) := fo_yes HT.out HW1.out HWS.out (fun i hi => by
                cases hf : flag (reachL l) i with
                | true =>
                  refine HG.out i hi hf ?_
                  have h1 := reachTo_lt l hi hf
                  have h2 := HREQ.out
                  rw [h2] at hlt
                  omega
                | false =>
                  unfold badF
                  rw [HNQ.out i hi, hf]; rfl)
              go_wp2
              go_ret
              exact ⟨ret_bool HF.out.symm, HBT.out⟩

end Go.Proofs.YtejoeahehljhnaaGreat.Fp2

/- The two kinds of quantifiers of the program: values of an interface. -/
namespace Go.Proofs.YtejoeahehljhnaaGreat.Qi0
open Go.RowKit
open Nd0 Qa0
set_option linter.unusedVariables false

def qv (x : Qu) : Value := .iface (if x.all then 92 else 93) (.agg #[.int .i64 x.vr, .int .i64 x.bits])

set_option maxHeartbeats 1000000 in
theorem iNewQ (al : Bool) (v b : Int) (w : World) :
    Calls Tryz.prog 41 #[.bool al, .int .i64 v, .int .i64 b] w fun e w' => e = .returned (qv ⟨al, v, b⟩) ∧ w' = w := by
  cases al
  all_goals
    go_enter Tryz.func41, Tryz.ntmps41
    go_wp2
    go_ret
    exact ⟨rfl, rfl⟩

theorem qv_all (v b : Int) : qv ⟨true, v, b⟩ = .iface 92 (.agg #[.int .i64 v, .int .i64 b]) := rfl
theorem qv_some (v b : Int) : qv ⟨false, v, b⟩ = .iface 93 (.agg #[.int .i64 v, .int .i64 b]) := rfl

theorem findAll (v b : Int) (w : World) : (method 231 92 (.agg #[.int .i64 v, .int .i64 b]) "loop.example/g00116/impl.variable").run Tryz.prog w = .ok (143, .agg #[.int .i64 v, .int .i64 b]) w := by kernel_rfl
theorem findSome (v b : Int) (w : World) : (method 231 93 (.agg #[.int .i64 v, .int .i64 b]) "loop.example/g00116/impl.variable").run Tryz.prog w = .ok (146, .agg #[.int .i64 v, .int .i64 b]) w := by kernel_rfl

set_option maxRecDepth 100000 in
set_option maxHeartbeats 1000000 in
theorem iVarAll (v b : Int) (w : World) : Calls Tryz.prog 143 #[.agg #[.int .i64 v, .int .i64 b]] w fun e w' => e = .returned (.tuple #[.int .i64 v, .int .i64 b]) ∧ Below w.heap.size w w' := by
  go_enter Tryz.func143, Tryz.ntmps143
  go_wp2_with fail
  go_quiet (fail)
  go_wp2
  go_ret2
  exact ⟨rfl, Kp0.below_drewN ((Below.refl _ _).alloc (Nat.le_refl _) _) _⟩
set_option maxRecDepth 100000 in
set_option maxHeartbeats 1000000 in
theorem iVarSome (v b : Int) (w : World) : Calls Tryz.prog 146 #[.agg #[.int .i64 v, .int .i64 b]] w fun e w' => e = .returned (.tuple #[.int .i64 v, .int .i64 b]) ∧ Below w.heap.size w w' := by
  go_enter Tryz.func146, Tryz.ntmps146
  go_wp2_with fail
  go_quiet (fail)
  go_wp2
  go_ret2
  exact ⟨rfl, Kp0.below_drewN ((Below.refl _ _).alloc (Nat.le_refl _) _) _⟩

end Go.Proofs.YtejoeahehljhnaaGreat.Qi0

/- Lists of the program's quantifiers: read, appended to; made of a list of Quants. -/
namespace Go.Proofs.YtejoeahehljhnaaGreat.Qi1
open Go.RowKit
open Nd0 Qa0 Qi0 Fr0
open Fm1 (quAt)
set_option linter.unusedVariables false

theorem infoQv : (Tryz.prog.info? 74).map (fun i => (i.zero, i.size, i.bytes)) = some (some .nilIface, 1, 16) := by kernel_rfl
def Qvs (w : World) (a : Option Addr) (l : List Qu) : Prop :=
  l.length ≤ maxLen ∧ (l.length = 0 ∨ ∃ b o, a = some ⟨b, o, none⟩ ∧ ∀ i (h : i < l.length), w.cell? ⟨b, o + i, none⟩ = some (qv l[i]))
theorem Qvs.below {w w' : World} {a : Option Addr} {l : List Qu} (h : Qvs w a l) (k : Below w.heap.size w w') : Qvs w' a l := by
  refine ⟨h.1, ?_⟩
  rcases h.2 with h0 | ⟨b, o, rfl, hc⟩
  · exact .inl h0
  · exact .inr ⟨b, o, rfl, fun i hi => by rw [k.cell (lt_of_cell (hc i hi))]; exact hc i hi⟩
def Owi (w : World) (B : Nat) (v : Value) (l : List Qu) : Prop := w.ownsRow B 74 1 v l.length (l.map qv)
theorem Owi.form {w : World} {B : Nat} {v : Value} {l : List Qu} (h : Owi w B v l) : ∃ a c, v = .slice a l.length c ∧ Qvs w a l ∧ l.length ≤ c ∧ ∀ x, 0 < l.length → a = some x → B ≤ x.block ∧ x.block < w.heap.size := by
  have hlt := World.ownsRow.lt h
  obtain ⟨h1, h2⟩ := h
  rcases h2 with ⟨rfl, h0⟩ | ⟨g, cap, cur, rfl, hb, hg, hn, hm, hs, ht⟩
  · have : l = [] := List.eq_nil_of_length_eq_zero h0
    subst this
    exact ⟨none, 0, rfl, ⟨Nat.zero_le _, .inl rfl⟩, Nat.zero_le _, fun x _ hx => by cases hx⟩
  · refine ⟨_, _, rfl, ⟨by omega, .inr ⟨g, 0, rfl, fun i hi => ?_⟩⟩, by omega, fun x _ hx => by cases hx; exact hlt g rfl⟩
    rw [Nat.zero_add, cell_of_row w g i cur _ _ hg]
    have e : (cur.toList.take (l.length * 1))[i]? = some (qv l[i]) := by rw [ht]; simp [hi]
    rw [List.getElem?_take_of_lt (by omega)] at e
    simpa using e
theorem Owi.lit (w : World) (B : Nat) (hB : B ≤ w.heap.size) : Owi (w.alloc (.cells #[] 74)) B (.slice (some ⟨w.heap.size, 0, none⟩) 0 0) [] :=
  World.ownsRow_lit w #[] 0 hB (Nat.zero_le _) rfl
theorem Owi.lt {w : World} {B : Nat} {v : Value} {l : List Qu} (h : Owi w B v l) : ∀ k, v.ownBlock = some k → B ≤ k ∧ k < w.heap.size := World.ownsRow.lt h
theorem Owi.kept {w w' : World} {B : Nat} {v : Value} {l : List Qu} (h : Owi w B v l) {S : Nat → Prop} (k : Kept S w w') (hs : ∀ i, v.ownBlock = some i → ¬ S i) : Owi w' B v l := by
  refine ⟨h.1, ?_⟩
  rcases h.2 with hn | ⟨g, cap, cur, rfl, hb, hgg, rest⟩
  · exact .inl hn
  · refine .inr ⟨g, cap, cur, rfl, hb, ?_, rest⟩
    rw [k.block g (Array.getElem?_eq_some_iff.1 hgg).1 (hs g rfl)]
    exact hgg
theorem app_qvs {ops : Array Oper} {rest : List Oper} {o : Oper} {a : Act} {Q : Exit → Act → World → Prop} (W : World) (hgd : o.guard = none) (s x : Operand)
    (ho : o.op = .call { callee := .builtin .append, args := #[s, x], argTypes := #[52, 52] })
    (B : Nat) (v : Value) (l ys : List Qu) (gx ox c : Nat) (hs : a.eval s = v) (hx : a.eval x = .slice (some ⟨gx, ox, none⟩) ys.length c)
    (hy : ∀ i (h : i < ys.length), W.cell? ⟨gx, ox + i, none⟩ = some (qv ys[i])) (hp : 0 < ys.length)
    (hown : Owi W B v l) (hB : B ≤ W.heap.size) (hlen : l.length + ys.length ≤ 1048577)
    (h : ∀ g cap w', Owi w' B (.slice (some ⟨g, 0, none⟩) (l.length + ys.length) cap) (l ++ ys) → Kept (fun k => v.ownBlock = some k) W w' → (v.ownBlock = some g ∨ W.heap.size ≤ g) → wpList Tryz.prog ops Q rest (a.put o.dst (.slice (some ⟨g, 0, none⟩) (l.length + ys.length) cap)) w') :
    wpList Tryz.prog ops Q (o :: rest) a W := by
  obtain ⟨i, hi, hzz⟩ := Option.map_eq_some_iff.1 infoQv
  simp only [Prod.mk.injEq] at hzz
  obtain ⟨hz, hsz, hb⟩ := hzz
  refine wpList_append_lies W hgd s x 52 ho B 74 i _ 1 16 Tryz.underlying52 hi hz hsz hb rfl (by omega) v l.length (l.map qv) hs hown
    ⟨gx, ox, none⟩ ys.length c (ys.map qv) hx (by simp) (fun j u hu => ?_) ?_ hp (by unfold maxLen; omega) (by omega) hB _ rfl ?_
  · have hj : j < ys.length := by have := (List.getElem?_eq_some_iff.1 hu).1; simpa using this
    have hadd : (⟨gx, ox, none⟩ : Addr).add j = ⟨gx, ox + j, none⟩ := by unfold Addr.add; split <;> simp_all
    rw [hadd, hy j hj, ← hu]
    simp [hj]
  · intro u hu
    obtain ⟨n, _, rfl⟩ := List.mem_map.1 hu
    rfl
  · intro g cap w' h1 h2 h3 h4
    refine h g cap w' ?_ ?_ ?_
    · unfold Owi
      rw [List.map_append, List.length_append]
      exact h1
    · exact ⟨h2.os, h2.tape, h2.output, h2.size, fun k hk hn => h2.block k hk (fun e => hn e.symm)⟩
    · rcases h3 with h3 | h3
      · exact .inl h3
      · exact .inr (by rw [h3]; exact Nat.le_refl _)
theorem app_qv {ops : Array Oper} {rest : List Oper} {o : Oper} {a : Act} {Q : Exit → Act → World → Prop} (W : World) (hgd : o.guard = none) (s x : Operand)
    (ho : o.op = .call { callee := .builtin .append, args := #[s, x], argTypes := #[52, 52] })
    (B : Nat) (v : Value) (l : List Qu) (y : Qu) (yv : Value) (hs : a.eval s = v) (G : Nat) (hx : a.eval x = .slice (some ⟨G, 0, none⟩) 1 1) (hG : G = W.heap.size)
    (hown : Owi W B v l) (hB : B ≤ W.heap.size) (hlen : l.length ≤ 1048576) (hyv : yv = qv y)
    (h : ∀ g cap w', Owi w' B (.slice (some ⟨g, 0, none⟩) (l.length + 1) cap) (l ++ [y]) → Kept (fun k => v.ownBlock = some k) W w' → (v.ownBlock = some g ∨ W.heap.size ≤ g) → wpList Tryz.prog ops Q rest (a.put o.dst (.slice (some ⟨g, 0, none⟩) (l.length + 1) cap)) w') :
    wpList Tryz.prog ops Q (o :: rest) a (W.alloc (.cells #[yv] 74)) := by
  subst hG hyv
  have k1 : Kept (fun k => v.ownBlock = some k) W (W.alloc (.cells #[qv y] 74)) := (Kept.refl _ W).alloc _
  refine app_qvs (W.alloc (.cells #[qv y] 74)) hgd s x ho B v l [y] W.heap.size 0 1 hs hx (fun i hi => ?_) (by simp) (World.ownsRow.alloc hown _) (by simp; omega) (by simp; omega) (fun g cap w' h1 h2 h3 => ?_)
  · have : i = 0 := by simpa using hi
    subst this
    rw [World.cell?_alloc_new]; rfl
  · refine h g cap w' h1 (k1.trans h2) ?_
    rcases h3 with h3 | h3
    · exact .inl h3
    · exact .inr (by simp at h3; omega)

set_option maxRecDepth 100000 in
set_option maxHeartbeats 2000000 in
theorem iQuantsC (w : World) (a : Option Addr) (q : List Qu) (c : Nat) (hN : Qus w a q) (hl : q.length ≤ 1048576) :
    Calls Tryz.prog 22 #[.slice a q.length c] w fun e w' => (∃ a' c', e = .returned (.slice a' q.length c') ∧ Qvs w' a' q ∧ q.length ≤ c' ∧ ∀ x, 0 < q.length → a' = some x → w.heap.size ≤ x.block) ∧ Below w.heap.size w w' := by
  have HN : Hid (Qus w a q) := hN
  clear hN
  have HAL : Hid (Below w.heap.size w (w.alloc (.cells #[] 74))) := (Below.refl _ _).alloc (Nat.le_refl _) _
  have HO0 : Hid (Owi (w.alloc (.cells #[] 74)) w.heap.size (.slice (some ⟨w.heap.size, 0, none⟩) 0 0) []) := Owi.lit w _ (Nat.le_refl _)
  go_enter Tryz.func22, Tryz.ntmps22
  go_wp2
  go_loopw [3, 9] (fun v i wr => ∃ k : Nat, k ≤ q.length ∧ i = .int .i64 k ∧ Owi wr w.heap.size v (q.take k) ∧ Below w.heap.size w wr) (fun _ i _ => q.length - (intOf i).toNat)
  case atStart => exact ⟨0, Nat.zero_le _, rfl, by rw [List.take_zero]; exact HO0.out, HAL.out⟩
  case round =>
    obtain ⟨k, hk, rfl, ho, hb⟩ := hrel
    have HO : Hid (Owi wr w.heap.size u3 (q.take k)) := ho
    have HB : Hid (Below w.heap.size w wr) := hb
    have hbs : w.heap.size ≤ wr.heap.size := hb.size
    have HTL : Hid ((q.take k).length = k) := by show _ = _; rw [List.length_take]; omega
    clear ho hb
    by_cases hlt : k < q.length
    · have hlz : (k : Int) < (q.length : Int) := by omega
      obtain ⟨b, o, rfl, hc⟩ := quAt (HN.out.below HB.out) hlt
      obtain ⟨p0, p1, p2⟩ := hc k hlt
      clear hc
      have HT : Hid (q.take (k + 1) = q.take k ++ [qth q k]) := by
        show _ = _
        rw [List.take_succ_eq_append_getElem hlt, qth_get hlt]
      obtain ⟨x, hx⟩ : ∃ x, x = qth q k := ⟨_, rfl⟩
      rw [← hx] at p0 p1 p2 HT
      clear hx
      obtain ⟨al, vr, bt⟩ := x
      simp only at p0 p1 p2
      generalize q.take k = L at HO HTL HT
      obtain ⟨wx, hwx⟩ : ∃ wx : World, wx = wr.alloc (.cells #[.bool al, .int .i64 vr, .int .i64 bt] 31) := ⟨_, rfl⟩
      have hbx : Below wr.heap.size wr wx := by rw [hwx]; exact (Below.refl _ _).alloc (Nat.le_refl _) _
      have HBX : Hid (Below w.heap.size w wx) := HB.out.trans (hbx.mono hbs)
      have HOX : Hid (Owi wx w.heap.size u3 L) := HO.out.kept (S := fun _ => False) (Kept.ofBelow hbx) (fun _ _ h => h)
      have hbs2 : w.heap.size ≤ wx.heap.size := HBX.out.size
      clear hbx
      go_wp2_with fail
      rw [← hwx]
      clear hwx
      refine (iNewQ _ _ _ _).mono ?_
      rintro e w1 ⟨rfl, hw⟩
      have hw' := hw.symm
      clear hw
      subst hw'
      cases al
      · rw [qv_some]
        go_wp2_with (at_builtin; go_must (refine app_qv _ rfl _ _ rfl w.heap.size u3 L ⟨false, vr, bt⟩ (.iface 93 (.agg #[.int .i64 vr, .int .i64 bt])) rfl _ rfl rfl HOX.out hbs2 (by rw [HTL.out]; omega) rfl ?_; intro g5 cp5 w5 ho5 hk5 hg5; have HO5 : Hid (Owi w5 w.heap.size (.slice (some ⟨g5, 0, none⟩) (L.length + 1) cp5) (L ++ [⟨false, vr, bt⟩])) := ho5; have HB5 : Hid (Below w.heap.size w w5) := HBX.out.trans (hk5.below (fun b hb => (HOX.out.lt b hb).1) hbs2); clear ho5 hk5 hg5))
        go_roundw
        case rel => exact ⟨k + 1, by omega, by go_num, by rw [HT.out]; exact HO5.out, HB5.out⟩
        case measure => simp [intOf]; omega
      · rw [qv_all]
        go_wp2_with (at_builtin; go_must (refine app_qv _ rfl _ _ rfl w.heap.size u3 L ⟨true, vr, bt⟩ (.iface 92 (.agg #[.int .i64 vr, .int .i64 bt])) rfl _ rfl rfl HOX.out hbs2 (by rw [HTL.out]; omega) rfl ?_; intro g5 cp5 w5 ho5 hk5 hg5; have HO5 : Hid (Owi w5 w.heap.size (.slice (some ⟨g5, 0, none⟩) (L.length + 1) cp5) (L ++ [⟨true, vr, bt⟩])) := ho5; have HB5 : Hid (Below w.heap.size w w5) := HBX.out.trans (hk5.below (fun b hb => (HOX.out.lt b hb).1) hbs2); clear ho5 hk5 hg5))
        go_roundw
        case rel => exact ⟨k + 1, by omega, by go_num, by rw [HT.out]; exact HO5.out, HB5.out⟩
        case measure => simp [intOf]; omega
    · have HE : Hid (q.take k = q) := by show _ = _; rw [List.take_of_length_le (by omega)]
      obtain ⟨av, cv, hv, hq, hcap, hlt9⟩ := HO.out.form
      rw [HE.out] at hv hq hlt9 hcap
      subst hv
      have HI : Hid (Qvs wr av q ∧ q.length ≤ cv ∧ ∀ x, 0 < q.length → av = some x → w.heap.size ≤ x.block) := ⟨hq, hcap, fun x h1 h2 => (hlt9 x h1 h2).1⟩
      clear hq hlt9 hcap HO HE
      go_wp2
      go_ret
      exact ⟨⟨_, _, rfl, HI.out⟩, HB.out⟩
end Go.Proofs.YtejoeahehljhnaaGreat.Qi1

/- The words of a width, told one by one: the program's eachWord. -/
namespace Go.Proofs.YtejoeahehljhnaaGreat.Pv6
open Go.RowKit Go.Shelf
open Pl1 Vl1 Vl2
open Pg1 (iWordOk)
attribute [local go_sem] Oper.semAt_some
set_option linter.unusedVariables false

set_option maxHeartbeats 1000000 in
theorem iEach (b : Int) (w : World) :
    Calls Tryz.prog 40 #[.int .i64 b] w fun e w' => e = .returned (.func (.func 55) #[] #[.pointer (some ⟨w.heap.size, 0, none⟩)]) ∧ w' = w.alloc (.cells #[.int .i64 b] 3) := by
  go_enter Tryz.func40, Tryz.ntmps40
  go_wp2
  go_ret
  exact ⟨rfl, rfl⟩

theorem fin_take {M j : Nat} (h : j < M) : (List.finRange M).take (j + 1) = (List.finRange M).take j ++ [⟨j, h⟩] := by
  rw [List.take_succ_eq_append_getElem (by simp; exact h)]
  simp
theorem wok_lt {b : Int} (h1 : 1 ≤ b) (h8 : b ≤ 8) (j : Nat) : wok b (j : Int) = decide (j < 2 ^ b.toNat) := by
  rw [Bool.eq_iff_iff, wok_iff, decide_eq_true_iff, p2_nat]
  omega

set_option maxRecDepth 100000 in
set_option maxHeartbeats 2000000 in
theorem words_stops (n n₀ Bn : Nat) (b : Int) (h1 : 1 ≤ b) (h8 : b ≤ 8) (w : World) (hB : Bn < n₀) (hn : n₀ ≤ w.heap.size) (hc : w.cell? ⟨Bn, 0, none⟩ = some (.int .i64 b)) :
    SeqStopsK Fence.wide n Tryz.prog 55 #[.pointer (some ⟨Bn, 0, none⟩)] (fun k : Fin (2 ^ b.toNat) => #[Value.int .i64 (k.val : Int)]) (Below n₀) (fun xs => xs = List.finRange (2 ^ b.toNat)) (fun _ => True) (2 ^ b.toNat) w := fun l J Jx W hW hJ hJx hY h0 => by
  have hcW : W.cell? ⟨Bn, 0, none⟩ = some (.int .i64 b) := (hW.cell (p := ⟨Bn, 0, none⟩) (show Bn < w.heap.size by omega)).trans hc
  have hw : ∀ j : Nat, wok b (j : Int) = decide (j < 2 ^ b.toNat) := fun j => wok_lt h1 h8 j
  have hM : 2 ^ b.toNat ≤ 256 := Nat.pow_le_pow_right (n := 2) (by omega) (show b.toNat ≤ 8 by omega)
  generalize 2 ^ b.toNat = M at *
  refine callsIn_of_wp Tryz.func55 rfl trivial ?_ rfl
  simp only [Tryz.ntmps55, List.size_toArray, List.length_cons, List.length_nil, Nat.reduceAdd, Nat.reduceSub, Array.replicate_succ, Array.replicate_zero, List.push_toArray, List.append_toArray, List.nil_append, List.cons_append]
  gi_wp2
  gi_loopw [3] (fun q wr => ∃ j : Nat, j ≤ M ∧ q = .int .i64 (j : Int) ∧ J ((List.finRange M).take j) wr ∧ Below n₀ W wr) (fun q _ => M - (intOf q).toNat)
  case atStart => exact ⟨0, Nat.zero_le _, rfl, h0, Below.refl _ _⟩
  case round =>
    obtain ⟨j, hj, rfl, hJs, hBe⟩ := hrel
    have HJS : Hid (J ((List.finRange M).take j) wr) := hJs
    have HBE : Hid (Below n₀ W wr) := hBe
    have hcr : wr.cell? ⟨Bn, 0, none⟩ = some (.int .i64 b) := (hBe.cell (p := ⟨Bn, 0, none⟩) hB).trans hcW
    have hwj := hw j
    by_cases hlt : j < M
    · rw [decide_eq_true hlt] at hwj
      obtain ⟨fn, tmps, assign, body, hy, hR⟩ := hY ((List.finRange M).take j) ⟨j, hlt⟩ wr hJs (by simp; omega)
      have hjz : (j : Int) ≤ 255 := by omega
      clear hw hY hJs hBe
      gi_wp2_with (refine ⟨trivial, (fun h => absurd h (by decide)), ?_⟩; gi_at_call 56; refine (callsIn_wide.2 (iWordOk _ _ _)).mono ?_; rintro e wr ⟨rfl, rfl⟩; rw [hwj])
      refine ⟨(fun h => absurd h (by decide)), hR.mono ?_⟩
      rintro e W3 (⟨rfl, hJ3, hk3⟩ | ⟨rfl, hJx3⟩)
      · have HJ3 : Hid (J ((List.finRange M).take (j + 1)) W3) := by rw [fin_take hlt]; exact hJ3
        have HB3 : Hid (Below n₀ W W3) := HBE.out.trans hk3
        clear hJ3 hk3
        gi_wp2
        go_roundw
        case rel => exact ⟨j + 1, by omega, by go_num, HJ3.out, HB3.out⟩
        case measure => simp [intOf]; omega
      · have HJ3 : Hid (Jx ((List.finRange M).take j ++ [⟨j, hlt⟩]) W3) := hJx3
        clear hJx3
        gi_wp2
        refine bodyPost_ret (results_none rfl _ _ _) rfl ?_
        exact ⟨⟨_, rfl⟩, .inr ⟨_, trivial, HJ3.out⟩⟩
    · rw [decide_eq_false hlt] at hwj
      have HJE : Hid (j = M) := by
        show _ = _
        omega
      clear hw hY hJs hBe
      gi_wp2_with (refine ⟨trivial, (fun h => absurd h (by decide)), ?_⟩; gi_at_call 56; refine (callsIn_wide.2 (iWordOk _ _ _)).mono ?_; rintro e wr ⟨rfl, rfl⟩; rw [hwj])
      go_end0
      exact ⟨⟨_, rfl⟩, .inl ⟨_, rfl, by have h9 := HJS.out; rw [HJE.out, List.take_of_length_le (by simp)] at h9; exact h9⟩⟩

end Go.Proofs.YtejoeahehljhnaaGreat.Pv6

/- Small texts of mine, one behind the other. -/
import Derived.Deep.RegionHeld
import Derived.Deep.WholeRow
import Derived.Test.YtnkkigoeffghdaaPk1511
import Derived.Test.YtnkkigoeffghdaaPk1510
import Derived.Test.YtnkkigoeffghdaaPk157
import Derived.Test.YtnkkigoeffghdaaPk1533
import Derived.Test.YtnkkigoeffghdaaPk1527
import Derived.Test.YtnkkigoeffghdaaWd5
import Derived.Test.YtnkkigoeffghdaaPk1530
/- The walk of the program's Reached. -/
namespace Go.Proofs.Ytnkkigoeffghdaa.Pg7
open Go.RowKit
open Nd0 Tm0 Tm1 Tm2 Ap0 Pg2 Rw0
open Lx1 (ITermOk)
open Lx2 (IReached)
open Ws1 (ret_int ret_bool)
set_option linter.unusedVariables false

theorem zeros : Try.zeroCells66 = Array.replicate 80 (.bool false) := by kernel_rfl
theorem zeros_get (i : Nat) (h : i < 80) : Try.zeroCells66[i]? = some (.bool false) := by
  rw [zeros, Array.getElem?_replicate, if_pos h]

set_option maxRecDepth 100000 in
set_option maxHeartbeats 4000000 in
theorem iReached (hTO : ITermOk) (w : World) (a : Option Addr) (l : List Nd) (c : Nat) (hN : Nodes w a l) (hcap : l.length ≤ c) (hlen : l.length ≤ 1048576) :
    Calls Try.prog 22 #[.slice a l.length c] w fun e w' => (∃ a' c', e = .returned (.slice a' (reachedL l).length c') ∧ WInts w' w.heap.size a' (reachedL l)) ∧ Below w.heap.size w w' := by
  have HN : Hid (Nodes w a l) := hN
  have HTO : Hid ITermOk := hTO
  have HCAP : Hid (l.length ≤ c) := hcap
  clear hcap hN hTO
  go_enter Try.func22, Try.ntmps22
  go_wp2_with fail
  refine (HTO.out _ a l c (HN.out.below ((Below.refl _ _).alloc (Nat.le_refl _) _)) HCAP.out hlen).mono ?_
  rintro e w1 ⟨rfl, hb1⟩
  have HB1 : Hid (Below w.heap.size w w1) := ((Below.refl _ _).alloc (Nat.le_refl _) _).trans (hb1.mono (by simp))
  have HL1 : Hid (Ows w1 w.heap.size (.slice (some ⟨w.heap.size, 0, none⟩) 0 0) []) := (Ows.lit w _ (Nat.le_refl _)).kept (S := fun _ => False) (Kept.ofBelow hb1) (fun _ _ h => h)
  clear hb1
  cases hT : termOk l
  · go_wp2
    go_ret
    have e0 : reachedL l = [] := by unfold reachedL; rw [hT]; rfl
    rw [e0]
    exact ⟨⟨_, _, rfl, Nat.zero_le _, .inl rfl⟩, HB1.out⟩
  · have HT : Hid (termOk l = true) := hT
    obtain ⟨hl1, hl2⟩ := term_len hT
    have hz := zeros_get (l.length - 1) (by omega)
    go_wp2
    clear hz hT
    have HR0 : Hid (Row (w1.alloc (.cells (Try.zeroCells66.setIfInBounds (l.length - 1) (.bool true)) 66)) w1.heap.size l.length (fun i => .bool (flag (reachInit l.length) i))) := by
      refine Row.new _ _ _ _ _ (fun i hi => ?_)
      rw [zeros, Array.getElem?_setIfInBounds, Array.getElem?_replicate]
      have e1 : flag (reachInit l.length) i = (i + 1 == l.length) := by simp [flag, reachInit, List.getD, hi]
      by_cases e : l.length - 1 = i
      · rw [if_pos e, if_pos (by simp; omega), e1]
        have : (i + 1 == l.length) = true := by simp; omega
        rw [this]
      · rw [if_neg e, if_pos (by omega), e1]
        have : (i + 1 == l.length) = false := by simp; omega
        rw [this]
    have HBA : Hid (Below w1.heap.size w1 (w1.alloc (.cells (Try.zeroCells66.setIfInBounds (l.length - 1) (.bool true)) 66))) := (Below.refl _ _).alloc (Nat.le_refl _) _
    obtain ⟨wa, hwa⟩ : ∃ wa : World, wa = w1.alloc (.cells (Try.zeroCells66.setIfInBounds (l.length - 1) (.bool true)) 66) := ⟨_, rfl⟩
    rw [← hwa] at HR0 HBA ⊢
    clear hwa
    obtain ⟨g, hg⟩ : ∃ g : Nat, g = w1.heap.size := ⟨_, rfl⟩
    rw [← hg] at HR0 ⊢
    have HG : Hid (g = w1.heap.size) := hg
    clear hg
    go_loopw [5] (fun q wr => ∃ j : Nat, j ≤ l.length ∧ q = .int .i64 ((j : Int) - 1) ∧ ∃ bs : List Bool, Row wr g l.length (fun i => .bool (flag bs i)) ∧ bs.length = l.length ∧ reachDown l j bs = reachL l ∧ Below w1.heap.size w1 wr) (fun q _ => (intOf q + 1).toNat)
    case atStart => exact ⟨l.length, Nat.le_refl _, rfl, _, HR0.out, reachInit_length _, rfl, HBA.out⟩
    case round =>
      clear HR0 HBA
      obtain ⟨j, hj, rfl, bs, hr, hbl, hrd, hbb⟩ := hrel
      have HRO : Hid (Row wr g l.length (fun i => .bool (flag bs i))) := hr
      have HRD : Hid (reachDown l j bs = reachL l) := hrd
      have HBB : Hid (Below w1.heap.size w1 wr) := hbb
      have HBL : Hid (bs.length = l.length) := hbl
      clear hr hrd hbb hbl
      cases j with
      | zero =>
        have hneg : ¬ (0 : Int) ≤ ((0 : Nat) : Int) - 1 := by omega
        have HRD0 : Hid (bs = reachL l) := HRD.out
        have HRX : Hid (Row wr g l.length (fun i => .bool (flag (reachL l) i))) := HRD0.out ▸ HRO.out
        have HL2 : Hid (Ows wr w.heap.size (.slice (some ⟨w.heap.size, 0, none⟩) 0 0) []) := HL1.out.kept (S := fun _ => False) (Kept.ofBelow HBB.out) (fun _ _ h => h)
        have HBW : Hid (Below w.heap.size w wr) := HB1.out.trans (HBB.out.mono HB1.out.size)
        obtain ⟨wz, rfl⟩ : ∃ wz : World, wz = wr := ⟨_, rfl⟩
        go_wp2
        go_loopw [3, 43] (fun v q wr => ∃ k : Nat, k ≤ l.length ∧ q = .int .i64 k ∧ Ows wr w.heap.size v (reachTo l k) ∧ Below w.heap.size w wr ∧ Row wr g l.length (fun i => .bool (flag (reachL l) i)) ∧ (∀ x, v.ownBlock = some x → x ≠ g)) (fun _ q _ => l.length - (intOf q).toNat)
        case atStart =>
          refine ⟨0, Nat.zero_le _, rfl, HL2.out, HBW.out, HRX.out, fun x hx => ?_⟩
          have := (HL1.out.lt x hx).2
          have := HG.out
          omega
        case round =>
          clear HL2 HBW HRX
          obtain ⟨k, hk, rfl, ho, hb, hr, hne⟩ := hrel
          have HO : Hid (Ows wr w.heap.size u3 (reachTo l k)) := ho
          have HB : Hid (Below w.heap.size w wr) := hb
          have HR : Hid (Row wr g l.length (fun i => .bool (flag (reachL l) i))) := hr
          have HNE : Hid (∀ x, u3.ownBlock = some x → x ≠ g) := hne
          have hBs : w.heap.size ≤ wr.heap.size := hb.size
          have hrl := reachTo_length l k
          clear hb hr hne
          by_cases hlt : k < l.length
          · clear ho
            have hlz : (k : Int) < (l.length : Int) := by omega
            have hk80 : (k : Int) < 80 := by omega
            have cI : wr.cell? ⟨g, k, none⟩ = some (.bool (flag (reachL l) k)) := (HR.out k hlt).1
            have HTS : Hid (reachTo l (k + 1) = if flag (reachL l) k then reachTo l k ++ [(k : Int)] else reachTo l k) := reachTo_succ l k
            cases hf : flag (reachL l) k
            · rw [hf] at cI
              have HT2 : Hid (reachTo l (k + 1) = reachTo l k) := by
                show _ = _
                rw [HTS.out, hf]; rfl
              go_wp2
              go_roundw
              case rel => exact ⟨k + 1, by omega, by go_num, HT2.out.symm ▸ HO.out, HB.out, HR.out, HNE.out⟩
              case measure => simp [intOf]; omega
            · rw [hf] at cI
              have HT2 : Hid (reachTo l (k + 1) = reachTo l k ++ [(k : Int)]) := by
                show _ = _
                rw [HTS.out, hf]; rfl
              go_wp2_with (at_builtin; go_must (refine app_int _ rfl _ _ rfl w.heap.size u3 (reachTo l k) (k : Int) rfl rfl HO.out hBs (by omega) ?_; intro g' cp w3 ho3 hk3 hg3))
              have HO3 : Hid (Ows w3 w.heap.size (.slice (some ⟨g', 0, none⟩) ((reachTo l k).length + 1) cp) (reachTo l k ++ [(k : Int)])) := ho3
              have HK3 : Hid (Kept (fun k => u3.ownBlock = some k) wr w3) := hk3
              have HG3 : Hid (u3.ownBlock = some g' ∨ wr.heap.size ≤ g') := hg3
              clear ho3 hk3 hg3
              go_wp2
              go_roundw
              case rel =>
                refine ⟨k + 1, by omega, by go_num, HT2.out.symm ▸ HO3.out, HB.out.trans (HK3.out.below (fun k hk => (HO.out.lt k hk).1) hBs), HR.out.kept HK3.out (fun e => HNE.out g e rfl), fun x hx => ?_⟩
                cases hx
                rcases HG3.out with e | e
                · exact HNE.out _ e
                · have := HR.out.lt (by omega)
                  show g' ≠ g
                  omega
              case measure => simp [intOf]; omega
          · have e2 : k = l.length := by omega
            subst e2
            obtain ⟨a9, c9, rfl, hw9⟩ := ho.form
            have HW9 : Hid (WInts wr w.heap.size a9 (reachTo l l.length)) := hw9
            clear ho hw9 HO
            go_wp2
            go_ret
            have e0 : reachedL l = reachTo l l.length := by unfold reachedL; rw [HT.out]; rfl
            rw [e0]
            exact ⟨⟨_, _, rfl, HW9.out⟩, HB.out⟩
      | succ i =>
        have hp : (0 : Int) ≤ ((i + 1 : Nat) : Int) - 1 := by omega
        have hie : ((i + 1 : Nat) : Int) - 1 = (i : Int) := by omega
        rw [hie]
        clear hie hp
        have hiz : (i : Int) < (l.length : Int) := by omega
        have hi80 : (i : Int) < 80 := by omega
        have cI : wr.cell? ⟨g, i, none⟩ = some (.bool (flag bs i)) := (HRO.out i (by omega)).1
        cases hfb : flag bs i
        · rw [hfb] at cI
          have HST : Hid (reachDown l i bs = reachL l) := by
            show _ = _
            rw [← HRD.out]
            show _ = reachDown l i (reachStep l bs i)
            unfold reachStep
            rw [hfb]; rfl
          go_wp2
          go_roundw
          case rel => exact ⟨i, by omega, by go_num, bs, HRO.out, HBL.out, HST.out, HBB.out⟩
          case measure => simp [intOf]
        · rw [hfb] at cI
          rcases ((HN.out.below HB1.out).below HBB.out).2 with h0 | ⟨xb, xo, rfl, hc⟩
          · omega
          obtain ⟨p0, p1, p2, p3, p4, p5⟩ := hc i (by omega)
          rw [nth_get (by omega : i < l.length)] at p0 p1 p2 p3 p4 p5
          clear hc
          have HPO := parts_ok (term_node HT.out (by omega : i < l.length))
          generalize hn : nth l i = n at p0 p1 p2 p3 p4 p5 HPO
          have HD : Hid (nth l i = n) := hn
          have HPO' : Hid (∀ k (hk : k < (parts n).length), 0 ≤ (parts n)[k] ∧ (parts n)[k] < i) := HPO
          clear hn HPO
          obtain ⟨wb, rfl⟩ : ∃ wb : World, wb = wr := ⟨_, rfl⟩
          have hgb : g < wb.heap.size := HRO.out.lt (by omega)
          go_wp2_with fail
          refine (iParts n _).mono ?_
          rintro e w2 ⟨⟨pa, pc, rfl, hpi⟩, hb2⟩
          have HP : Hid (IntsIn w2 wb.heap.size w2.heap.size pa (parts n)) := hpi.within
          have HRW : Hid (Row w2 g l.length (fun i => .bool (flag bs i))) := HRO.out.below hb2
          have HB2 : Hid (Below w1.heap.size w1 w2) := HBB.out.trans (hb2.mono HBB.out.size)
          clear hpi hb2 p0 p1 p2 p3 p4 p5 cI
          have hpl := parts_le n
          go_wp2_with fail
          go_loopw [34] (fun q wr => ∃ k : Nat, k ≤ (parts n).length ∧ q = .int .i64 k ∧ ∃ b3 : List Bool, Row wr g l.length (fun i => .bool (flag b3 i)) ∧ b3.length = l.length ∧ markAll b3 ((parts n).drop k) = markAll bs (parts n) ∧ Kept (fun x => x = g) w2 wr) (fun q _ => (parts n).length - (intOf q).toNat)
          case atStart => exact ⟨0, Nat.zero_le _, rfl, bs, HRW.out, HBL.out, rfl, Kept.refl _ _⟩
          case round =>
            obtain ⟨k, hk, rfl, b3, hr3, hl3, hm3, hk3⟩ := hrel
            have HR3 : Hid (Row wr g l.length (fun i => .bool (flag b3 i))) := hr3
            have HL3 : Hid (b3.length = l.length) := hl3
            have HM3 : Hid (markAll b3 ((parts n).drop k) = markAll bs (parts n)) := hm3
            have HK3 : Hid (Kept (fun x => x = g) w2 wr) := hk3
            clear hr3 hl3 hm3 hk3
            by_cases hlt : k < (parts n).length
            · have hlz : (k : Int) < ((parts n).length : Int) := by omega
              rcases (HP.out.kept HK3.out (fun b h1 h2 e => by omega)).2 with h0 | ⟨pb, po, rfl, hpB, hpU, hpc⟩
              · omega
              have q0 := (hpc k hlt).1
              obtain ⟨hx0, hx1⟩ := HPO'.out k hlt
              have HDR : Hid ((parts n).drop k = (parts n)[k] :: (parts n).drop (k + 1)) := List.drop_eq_getElem_cons hlt
              clear hpc hpB hpU
              generalize (parts n)[k] = x at q0 hx0 hx1 HDR
              obtain ⟨jx, rfl⟩ := Int.eq_ofNat_of_zero_le hx0
              obtain ⟨c1, c2⟩ := HR3.out jx (by omega)
              have hxz : (jx : Int) < 80 := by omega
              go_wp2
              go_roundw
              case rel =>
                have hle : jx < b3.length := by rw [HL3.out]; omega
                refine ⟨k + 1, by omega, by go_num, b3.set jx true, ?_, by rw [List.length_set]; exact HL3.out, ?_, HK3.out.setCell rfl _⟩
                · refine (HR3.out.set (by omega) _).congr (fun i hi => ?_)
                  rw [flag_set hle]
                  by_cases e : i = jx
                  · rw [if_pos e, if_pos e.symm]
                  · rw [if_neg e, if_neg (fun x => e x.symm)]
                · have h9 := HM3.out
                  rw [HDR.out] at h9
                  exact h9
              case measure => simp [intOf]; omega
            · have HST : Hid (reachDown l i b3 = reachL l) := by
                show _ = _
                rw [← HRD.out]
                show _ = reachDown l i (reachStep l bs i)
                unfold reachStep
                rw [hfb, HD.out]
                have h9 := HM3.out
                rw [List.drop_of_length_le (by omega)] at h9
                exact congrArg _ h9
              go_wp2
              go_roundw
              case rel => exact ⟨i, by omega, by go_num, b3, HR3.out, HL3.out, HST.out, HB2.out.trans (HK3.out.below (fun k hk => by have := HG.out; omega) HB2.out.size)⟩
              case measure => simp [intOf]

end Go.Proofs.Ytnkkigoeffghdaa.Pg7

/- The walk of the program's Apply: operators are functions in an array. -/
namespace Go.Proofs.Ytnkkigoeffghdaa.Pv1
open Go.RowKit
open Nd0 Pl1 Pl2 Vl1 Vl2 Bt0 Wd1 Wd2 Wd3 Wd4 Wd5 Ic4
open Sv1 (Rg below1)
set_option linter.unusedVariables false
theorem wr64 (n : Int) (h : -9223372036854775808 ≤ n ∧ n ≤ 9223372036854775807) : wrap64 n = n := by unfold wrap64; omega
/-- The array of operators. -/
def tab : Array Value := #[.func (.func 139) #[] #[], .nilFunc, .func (.func 140) #[] #[], .func (.func 142) #[] #[], .func (.func 143) #[] #[], .func (.func 144) #[] #[], .func (.func 145) #[] #[], .func (.func 147) #[] #[], .func (.func 149) #[] #[], .func (.func 151) #[] #[], .func (.func 153) #[] #[], .func (.func 155) #[] #[], .func (.func 157) #[] #[], .func (.func 159) #[] #[], .func (.func 160) #[] #[], .func (.func 162) #[] #[], .func (.func 164) #[] #[], .func (.func 165) #[] #[], .func (.func 167) #[] #[]]
/-- What the function of an operator is to do. -/
def Clo (f : Nat) (n : Nd) (W a b c : Int) (v : Int) : Prop := ∀ w : World,
    Calls Try.prog f #[.agg #[.int .i64 n.op, .int .i64 n.w, .int .i64 n.k, .int .i64 n.a, .int .i64 n.b, .int .i64 n.c], .int .i64 W, .int .i64 a, .int .i64 b, .int .i64 c] w fun e w' => e = .returned (.int .i64 v) ∧ Below w.heap.size w w'

set_option maxHeartbeats 1000000 in
theorem c0 (n : Nd) (W a b c : Int) : Clo 139 n W a b c (n.k) := by
  intro w
  go_enter Try.func139, Try.ntmps139
  go_wp2
  go_ret
  exact ⟨ret_int (by rfl), below1 _ _⟩

set_option maxHeartbeats 1000000 in
theorem c2 (n : Nd) (W a b c : Int) : Clo 140 n W a b c (vFlip n.w a) := by
  intro w
  go_enter Try.func140, Try.ntmps140
  go_wp2_with (first | (go_at_call 141; refine (iFlip _ _ _).mono ?_; rintro e w' ⟨rfl, rfl⟩))
  go_ret
  exact ⟨ret_int (by rfl), below1 _ _⟩

set_option maxHeartbeats 1000000 in
theorem c3 (n : Nd) (W a b c : Int) (r3 : 0 ≤ a ∧ a ≤ 255) (r4 : 0 ≤ b ∧ b ≤ 255) : Clo 142 n W a b c (nAnd a b) := by
  intro w
  have HB : Hid (bits .and .i64 a b = nAnd a b) := band r3 r4
  go_enter Try.func142, Try.ntmps142
  go_wp2
  go_ret
  exact ⟨ret_int (by exact HB.out), below1 _ _⟩

set_option maxHeartbeats 1000000 in
theorem c4 (n : Nd) (W a b c : Int) (r3 : 0 ≤ a ∧ a ≤ 255) (r4 : 0 ≤ b ∧ b ≤ 255) : Clo 143 n W a b c (nOr a b) := by
  intro w
  have HB : Hid (bits .or .i64 a b = nOr a b) := bor r3 r4
  go_enter Try.func143, Try.ntmps143
  go_wp2
  go_ret
  exact ⟨ret_int (by exact HB.out), below1 _ _⟩

set_option maxHeartbeats 1000000 in
theorem c5 (n : Nd) (W a b c : Int) (r3 : 0 ≤ a ∧ a ≤ 255) (r4 : 0 ≤ b ∧ b ≤ 255) : Clo 144 n W a b c (nXor a b) := by
  intro w
  have HB : Hid (bits .xor .i64 a b = nXor a b) := bxor r3 r4
  go_enter Try.func144, Try.ntmps144
  go_wp2
  go_ret
  exact ⟨ret_int (by exact HB.out), below1 _ _⟩

set_option maxHeartbeats 1000000 in
theorem c6 (n : Nd) (W a b c : Int) : Clo 145 n W a b c (vAdd n.w a b) := by
  intro w
  go_enter Try.func145, Try.ntmps145
  go_wp2_with (first | (go_at_call 146; refine (iAdd _ _ _ _).mono ?_; rintro e w' ⟨rfl, rfl⟩))
  go_ret
  exact ⟨ret_int (by rfl), below1 _ _⟩

set_option maxHeartbeats 1000000 in
theorem c7 (n : Nd) (W a b c : Int) : Clo 147 n W a b c (vSub n.w a b) := by
  intro w
  go_enter Try.func147, Try.ntmps147
  go_wp2_with (first | (go_at_call 148; refine (iSub _ _ _ _).mono ?_; rintro e w' ⟨rfl, rfl⟩))
  go_ret
  exact ⟨ret_int (by rfl), below1 _ _⟩

set_option maxHeartbeats 1000000 in
theorem c8 (n : Nd) (W a b c : Int) : Clo 149 n W a b c (vMul n.w a b) := by
  intro w
  go_enter Try.func149, Try.ntmps149
  go_wp2_with (first | (go_at_call 150; refine (iMul _ _ _ _).mono ?_; rintro e w' ⟨rfl, rfl⟩))
  go_ret
  exact ⟨ret_int (by rfl), below1 _ _⟩

set_option maxHeartbeats 1000000 in
theorem c9 (n : Nd) (W a b c : Int) : Clo 151 n W a b c (vDiv n.w a b) := by
  intro w
  go_enter Try.func151, Try.ntmps151
  go_wp2_with (first | (go_at_call 152; refine (iDiv _ _ _ _).mono ?_; rintro e w' ⟨rfl, rfl⟩))
  go_ret
  exact ⟨ret_int (by rfl), below1 _ _⟩

set_option maxHeartbeats 1000000 in
theorem c10 (n : Nd) (W a b c : Int) : Clo 153 n W a b c (vRem n.w a b) := by
  intro w
  go_enter Try.func153, Try.ntmps153
  go_wp2_with (first | (go_at_call 154; refine (iRem _ _ _ _).mono ?_; rintro e w' ⟨rfl, rfl⟩))
  go_ret
  exact ⟨ret_int (by rfl), below1 _ _⟩

set_option maxHeartbeats 1000000 in
theorem c11 (n : Nd) (W a b c : Int) : Clo 155 n W a b c (vShl n.w a b) := by
  intro w
  go_enter Try.func155, Try.ntmps155
  go_wp2_with (first | (go_at_call 156; refine (iShl _ _ _ _).mono ?_; rintro e w' ⟨rfl, rfl⟩))
  go_ret
  exact ⟨ret_int (by rfl), below1 _ _⟩

set_option maxHeartbeats 1000000 in
theorem c12 (n : Nd) (W a b c : Int) : Clo 157 n W a b c (vShr n.w a b) := by
  intro w
  go_enter Try.func157, Try.ntmps157
  go_wp2_with (first | (go_at_call 158; refine (iShr _ _ _ _).mono ?_; rintro e w' ⟨rfl, rfl⟩))
  go_ret
  exact ⟨ret_int (by rfl), below1 _ _⟩

set_option maxHeartbeats 1000000 in
theorem c13 (n : Nd) (W a b c v : Int) (hv : v = if a = b then 1 else 0) : Clo 159 n W a b c v := by
  intro w
  cases hab : (a == b)
  · have HV : Hid (v = 0) := by
      show _ = _
      rw [hv, if_neg (by simpa using hab)]
    clear hv
    go_enter Try.func159, Try.ntmps159
    go_wp2_with (go_at_call 49; refine (iOne _ _).mono ?_; rintro e w' ⟨rfl, rfl⟩)
    go_ret
    exact ⟨ret_int HV.out.symm, below1 _ _⟩
  · have HV : Hid (v = 1) := by
      show _ = _
      rw [hv, if_pos (by simpa using hab)]
    clear hv
    go_enter Try.func159, Try.ntmps159
    go_wp2_with (go_at_call 49; refine (iOne _ _).mono ?_; rintro e w' ⟨rfl, rfl⟩)
    go_ret
    exact ⟨ret_int HV.out.symm, below1 _ _⟩

set_option maxHeartbeats 1000000 in
theorem c14 (n : Nd) (W a b c : Int) : Clo 160 n W a b c (vLess W a b) := by
  intro w
  go_enter Try.func160, Try.ntmps160
  go_wp2_with (first | (go_at_call 161; refine (iLess _ _ _ _).mono ?_; rintro e w' ⟨rfl, rfl⟩))
  go_ret
  exact ⟨ret_int (by rfl), below1 _ _⟩

set_option maxHeartbeats 1000000 in
theorem c15 (n : Nd) (W a b c : Int) : Clo 162 n W a b c (vLessSigned W a b) := by
  intro w
  go_enter Try.func162, Try.ntmps162
  go_wp2_with (first | (go_at_call 163; refine (iLessSigned _ _ _ _).mono ?_; rintro e w' ⟨rfl, rfl⟩))
  go_ret
  exact ⟨ret_int (by rfl), below1 _ _⟩

set_option maxHeartbeats 1000000 in
theorem c16 (n : Nd) (W a b c : Int) (r1 : 1 ≤ n.w ∧ n.w ≤ 8) (r2 : 1 ≤ W ∧ W ≤ 8) (r3 : 0 ≤ a ∧ a ≤ 255) (r4 : 0 ≤ b ∧ b ≤ 255) (v : Int) (hv : v = if n.w < W then b else a * p2 (n.w - W).toNat + b) : Clo 164 n W a b c v := by
  intro w
  by_cases hlt : n.w < W
  · have HV : Hid (v = b) := hv.trans (if_pos hlt)
    clear hv
    go_enter Try.func164, Try.ntmps164
    go_wp2
    go_ret
    exact ⟨ret_int HV.out.symm, below1 _ _⟩
  · have HV : Hid (v = a * p2 (n.w - W).toNat + b) := hv.trans (if_neg hlt)
    clear hv
    have hr := p2_mono (show (n.w - W).toNat ≤ 7 by omega)
    have hq := p2_pos (n.w - W).toNat
    have hr7 : p2 7 = 128 := rfl
    obtain ⟨hb1, hb2⟩ := mul_bd r3.1 r3.2 (show 0 ≤ p2 (n.w - W).toNat by omega) (by omega)
    have hsh : 0 ≤ n.w - W := by omega
    have HS : Hid (a * 2 ^ (n.w - W).toNat = a * p2 (n.w - W).toNat) := by show _ = _; simp [p2]
    go_enter Try.func164, Try.ntmps164
    go_wp2
    go_ret
    exact ⟨ret_int (by rw [HV.out, HS.out, wr64 (a * p2 (n.w - W).toNat) (by omega)]; exact wr64 _ (by omega)), below1 _ _⟩

set_option maxHeartbeats 1000000 in
theorem c17 (n : Nd) (W a b c : Int) (hw : (Lit.int .i64 n.w).wf = true) : Clo 165 n W a b c (vSlice W a n.k n.w) := by
  intro w
  go_enter Try.func165, Try.ntmps165
  go_wp2_with (first | (go_at_call 166; refine (iSlice _ _ _ _ _ hw).mono ?_; rintro e w' ⟨rfl, rfl⟩))
  go_ret
  exact ⟨ret_int (by rfl), below1 _ _⟩

set_option maxHeartbeats 1000000 in
theorem c18 (n : Nd) (W a b c v : Int) (hv : v = if a = 1 then b else c) : Clo 167 n W a b c v := by
  intro w
  cases ha : (a == 1)
  · have HV : Hid (v = c) := hv.trans (if_neg (by simpa using ha))
    clear hv
    go_enter Try.func167, Try.ntmps167
    go_wp2
    go_ret
    exact ⟨ret_int HV.out.symm, below1 _ _⟩
  · have HV : Hid (v = b) := hv.trans (if_pos (by simpa using ha))
    clear hv
    go_enter Try.func167, Try.ntmps167
    go_wp2
    go_ret
    exact ⟨ret_int HV.out.symm, below1 _ _⟩

set_option maxHeartbeats 1000000 in
theorem byteOk (x : Int) (w : World) :
    Calls Try.prog 133 #[.int .i64 x] w fun e w' => e = .returned (.bool (decide (0 ≤ x ∧ x ≤ 255))) ∧ w' = w := by
  by_cases h1 : 0 ≤ x <;> by_cases h2 : x ≤ 255
  all_goals
    go_enter Try.func133, Try.ntmps133
    go_wp2
    go_ret
    exact ⟨ret_bool (by simp <;> omega), rfl⟩
theorem sizeTab : (Try.prog.info? 126).map (·.size) = some tab.size := by kernel_rfl
theorem oneTab : tab.all (·.oneCell') = true := by kernel_rfl
/-- A whole array into the block that was made last. -/
theorem store_new {ops : Array Oper} {rest : List Oper} {op : Oper} {a : Act} {Q : Exit → Act → World → Prop} (w : World) (hgd : op.guard = none) (ty : TypeId) (x y : Operand) (ho : op.op = .store ty x y)
    (c c' : Array Value) (g : Nat) (hx : a.eval x = .pointer (some ⟨g, 0, none⟩)) (hg : g = w.heap.size) (hy : a.eval y = .agg c') (hi : (Try.prog.info? ty).map (·.size) = some c'.size) (hs : c.size = c'.size) (h1 : c'.all (·.oneCell') = true)
    (h : wpList Try.prog ops Q rest (a.put op.dst undef) (w.alloc (.cells c' ty))) : wpList Try.prog ops Q (op :: rest) a (w.alloc (.cells c ty)) :=
  wpList_plain hgd fun _ hK => by
    subst hg
    unfold Oper.wp execOp
    simp only [ho, hx, hy, Sem.run_bind, Sem.run_pure, run_storeAt_new w ty c c' hi hs h1, Result.andThen_ok]
    exact hK _ _ h
set_option maxRecDepth 100000 in
set_option maxHeartbeats 1000000 in
theorem operators (w : World) :
    Calls Try.prog 134 #[] w fun e w' => e = .returned (.agg tab) ∧ w' = w.alloc (.cells tab 126) := by
  go_enter Try.func134, Try.ntmps134
  go_wp2_with (refine store_new _ rfl 126 (.tmp 0) (.tmp 1) rfl _ tab _ rfl rfl rfl sizeTab rfl oneTab ?_)
  refine bodyPost_ret (v := .agg tab) ?_ rfl ⟨rfl, rfl⟩
  exact results_cell_row rfl _ _ w.heap.size _ tab _ _ rfl (heap_alloc_last w _) Try.underlying126 rfl sizeTab

end Go.Proofs.Ytnkkigoeffghdaa.Pv1

/- The walk of the program's Apply, out of the contracts of its operators. -/
namespace Go.Proofs.Ytnkkigoeffghdaa.Pv3
open Go.RowKit
open Nd0 Pl1 Pl2 Vl1 Vl2 Bt0 Wd1 Wd2 Wd3 Wd4 Wd5 Ic4 Pv1
open Sv1 (Rg below1)
set_option linter.unusedVariables false
theorem eqIn_func (d : Nat) (f : Fn) (x y : Array Value) (w : World) : (Op.equalIn (d + 1) 125 (.func f x y) .nilFunc).run Try.prog w = .ok false w := by
  simp [Op.equalIn, run_underlying Try.underlying125]
theorem eqIn_nil (d : Nat) (w : World) : (Op.equalIn (d + 1) 125 .nilFunc .nilFunc).run Try.prog w = .ok true w := by
  simp [Op.equalIn, run_underlying Try.underlying125]
theorem eql_func (f : Fn) (x y : Array Value) (w : World) : (binOp .eql 125 (.func f x y) .nilFunc).run Try.prog w = .ok (.bool false) w := by
  have h : (Op.equal 125 (.func f x y) .nilFunc).run Try.prog w = .ok false w := eqIn_func 9999 f x y w
  simp only [binOp]
  simp [h]
theorem eql_nil (w : World) : (binOp .eql 125 .nilFunc .nilFunc).run Try.prog w = .ok (.bool true) w := by
  have h : (Op.equal 125 .nilFunc .nilFunc).run Try.prog w = .ok true w := eqIn_nil 9999 w
  simp only [binOp]
  simp [h]
theorem facts7 (w : World) (k : Nat) (f v0 v1 v2 v3 v4 v5 : Value) (hk : k < tab.size) (h : tab[k]'hk = f) :
    (((w.alloc (.cells #[v0, v1, v2, v3, v4, v5] 55)).alloc (.cells tab 126)).alloc (.cells tab 126)).cell? ⟨w.heap.size, 0, none⟩ = some v0 ∧
    (((w.alloc (.cells #[v0, v1, v2, v3, v4, v5] 55)).alloc (.cells tab 126)).alloc (.cells tab 126)).cell? ⟨w.heap.size, 1, none⟩ = some v1 ∧
    (((w.alloc (.cells #[v0, v1, v2, v3, v4, v5] 55)).alloc (.cells tab 126)).alloc (.cells tab 126)).cell? ⟨w.heap.size, 2, none⟩ = some v2 ∧
    (((w.alloc (.cells #[v0, v1, v2, v3, v4, v5] 55)).alloc (.cells tab 126)).alloc (.cells tab 126)).cell? ⟨w.heap.size, 3, none⟩ = some v3 ∧
    (((w.alloc (.cells #[v0, v1, v2, v3, v4, v5] 55)).alloc (.cells tab 126)).alloc (.cells tab 126)).cell? ⟨w.heap.size, 4, none⟩ = some v4 ∧
    (((w.alloc (.cells #[v0, v1, v2, v3, v4, v5] 55)).alloc (.cells tab 126)).alloc (.cells tab 126)).cell? ⟨w.heap.size, 5, none⟩ = some v5 ∧
    (((w.alloc (.cells #[v0, v1, v2, v3, v4, v5] 55)).alloc (.cells tab 126)).alloc (.cells tab 126)).cell? ⟨w.heap.size + 1 + 1, k, none⟩ = some f := by
  have hB : Below (w.alloc (.cells #[v0, v1, v2, v3, v4, v5] 55)).heap.size (w.alloc (.cells #[v0, v1, v2, v3, v4, v5] 55)) (((w.alloc (.cells #[v0, v1, v2, v3, v4, v5] 55)).alloc (.cells tab 126)).alloc (.cells tab 126)) := ((Below.refl _ _).alloc (Nat.le_refl _) _).alloc (by simp) _
  have e : ((w.alloc (.cells #[v0, v1, v2, v3, v4, v5] 55)).alloc (.cells tab 126)).heap.size = w.heap.size + 1 + 1 := by simp
  refine ⟨?_, ?_, ?_, ?_, ?_, ?_, ?_⟩
  · rw [hB.cell (by simp), World.cell?_alloc_new]; rfl
  · rw [hB.cell (by simp), World.cell?_alloc_new]; rfl
  · rw [hB.cell (by simp), World.cell?_alloc_new]; rfl
  · rw [hB.cell (by simp), World.cell?_alloc_new]; rfl
  · rw [hB.cell (by simp), World.cell?_alloc_new]; rfl
  · rw [hB.cell (by simp), World.cell?_alloc_new]; rfl
  · rw [← e, World.cell?_alloc_new, ← h]
    exact Array.getElem?_eq_getElem hk
theorem kept7 {W W' : World} {b t k : Nat} {v0 v1 v2 v3 v4 v5 f : Value}
    (h : W.cell? ⟨b, 0, none⟩ = some v0 ∧ W.cell? ⟨b, 1, none⟩ = some v1 ∧ W.cell? ⟨b, 2, none⟩ = some v2 ∧ W.cell? ⟨b, 3, none⟩ = some v3 ∧ W.cell? ⟨b, 4, none⟩ = some v4 ∧ W.cell? ⟨b, 5, none⟩ = some v5 ∧ W.cell? ⟨t, k, none⟩ = some f) (hb : Below W.heap.size W W') :
    W'.cell? ⟨b, 0, none⟩ = some v0 ∧ W'.cell? ⟨b, 1, none⟩ = some v1 ∧ W'.cell? ⟨b, 2, none⟩ = some v2 ∧ W'.cell? ⟨b, 3, none⟩ = some v3 ∧ W'.cell? ⟨b, 4, none⟩ = some v4 ∧ W'.cell? ⟨b, 5, none⟩ = some v5 ∧ W'.cell? ⟨t, k, none⟩ = some f := by
  obtain ⟨h0, h1, h2, h3, h4, h5, h6⟩ := h
  exact ⟨(hb.cell (lt_of_cell h0)).trans h0, (hb.cell (lt_of_cell h1)).trans h1, (hb.cell (lt_of_cell h2)).trans h2, (hb.cell (lt_of_cell h3)).trans h3, (hb.cell (lt_of_cell h4)).trans h4, (hb.cell (lt_of_cell h5)).trans h5, (hb.cell (lt_of_cell h6)).trans h6⟩
def iApp (n : Nd) (W a b c v : Int) (w : World) : Prop :=
    Calls Try.prog 112 #[.agg #[.int .i64 n.op, .int .i64 n.w, .int .i64 n.k, .int .i64 n.a, .int .i64 n.b, .int .i64 n.c], .int .i64 W, .int .i64 a, .int .i64 b, .int .i64 c] w fun e w' => e = .returned (.int .i64 v) ∧ Below w.heap.size w w'

end Go.Proofs.Ytnkkigoeffghdaa.Pv3

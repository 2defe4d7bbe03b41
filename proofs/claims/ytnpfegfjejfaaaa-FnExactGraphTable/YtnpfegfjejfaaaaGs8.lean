/- The model's GraphTable. -/
import Derived.Test.YtnpfegfjejfaaaaGs6
import Derived.Test.YtnpfegfjejfaaaaGp9
import Derived.Test.YtnpfegfjejfaaaaTd2
namespace Go.Proofs.Ytnpfegfjejfaaaa.Gs8
open Go.RowKit
open Nd0 Qb0 Gr0 Gr1 Gs1 Gs2 Gs6 Ta0 Ta1 Wv0 Wv2 Gt0 Gx0
open Gp9 (tgN tgS tgB no_n)
open Tc2 (sPow)
open Ap9 (Owu app_byte)
open Ss0 (bs)
set_option linter.unusedVariables false

theorem tab_snoc (n : Nat) (F : Nat → Bool) : (List.range (2 ^ n)).map (fun i => sgn (F i)) = tab n F := rfl
/-- The signs of the first k places. -/
def tk (F : Nat → Bool) (k : Nat) : List UInt8 := (List.range k).map fun i => sgn (F i)
theorem tk_len (F : Nat → Bool) (k : Nat) : (tk F k).length = k := by simp [tk]
theorem tk_next (F : Nat → Bool) (k : Nat) : tk F k ++ [sgn (F k)] = tk F (k + 1) := by simp [tk, List.range_succ]
/-- The bits of place p, the first k of them. -/
def pk (n p k : Nat) : List Nat := (List.range k).map fun i => (pbit n i p).toNat
theorem pk_next (n p k : Nat) : pk n p k ++ [(pbit n k p).toNat] = pk n p (k + 1) := by simp [pk, List.range_succ]

set_option maxRecDepth 100000 in
set_option maxHeartbeats 8000000 in
theorem sGraphTable (w : World) (ins : Int) (a : Option Addr) (c : Nat) (l : List An) (h : Ans w a l) (hR : Rg l) (x : Int) :
    Calls Try.prog 42 #[.agg #[.int .i64 ins, .slice a l.length c], .int .i64 x] w fun e w' => e = .returned (.tuple #[.agg #[.int .i64 (tgN ins l x), .string (tgS ins l x)], .bool (tgB ins l x)]) ∧ Below w.heap.size w w' := by
  have H : Hid (Ans w a l) := h
  have HRg : Hid (Rg l) := hR
  clear h hR
  obtain ⟨W, hW⟩ : ∃ W, W = (w.alloc (.cells #[.int .i64 ins, .slice a l.length c] 29)).alloc (.cells #[.int .i64 0, .string ⟨#[]⟩] 25) := ⟨_, rfl⟩
  have HWB : Hid (Below w.heap.size w W) := by rw [hW]; exact ((Below.refl _ _).alloc (Nat.le_refl _) _).alloc (by simp) _
  obtain ⟨q, hq⟩ : ∃ q, q = w.heap.size := ⟨_, rfl⟩
  have hs : W.heap.size = q + 1 + 1 := by rw [hW, hq]; simp
  have LG : Hid (Lay W q (.int .i64 ins) (.slice a l.length c)) := by rw [hW, hq]; exact (Lay.made _ _ _ _).alloc _
  have LR : Hid (Lay W (q + 1) (.int .i64 0) (.string ⟨#[]⟩)) := by
    rw [hW, hq]
    have h := Lay.made (w.alloc (.cells #[.int .i64 ins, .slice a l.length c] 29)) (.int .i64 0) (.string ⟨#[]⟩) 25
    have hA : (w.alloc (.cells #[.int .i64 ins, .slice a l.length c] 29)).heap.size = w.heap.size + 1 := by simp
    rw [hA] at h
    exact h
  have HA : Hid (Ans W a l) := H.out.below HWB.out
  have HW : Hid (W = (w.alloc (.cells #[.int .i64 ins, .slice a l.length c] 29)).alloc (.cells #[.int .i64 0, .string ⟨#[]⟩] 25)) := hW
  have HQ : Hid (q = w.heap.size) := hq
  clear hW hq hs
  go_enter Try.func42, Try.ntmps42
  go_upto_region 1 with fail
  rw [← HW.out, ← HQ.out]
  have g0 := LG.out.c0
  have g1 := LG.out.c1
  go_wp2_with fail
  refine (sGraphOk W ins a c l HA.out HRg.out).mono ?_
  cases hg : gokB ins l with
  | false =>
    rintro e w2 ⟨rfl, hb2⟩
    obtain ⟨e1, e2, e3⟩ := no_n (ins := ins) (l := l) (x := x) (fun e => by rw [hg] at e; exact absurd e.1 (by simp))
    have HE : Hid (tgN ins l x = 0 ∧ tgS ins l x = ⟨#[]⟩ ∧ tgB ins l x = false) := ⟨e1, e2, e3⟩
    have HB2 : Hid (Below W.heap.size W w2) := hb2
    clear e1 e2 e3 hg hb2 g0 g1
    have y0 := (LR.out.below HB2.out).c0
    have y1 := (LR.out.below HB2.out).c1
    have z0 := (LR.out.below HB2.out).z0
    have z1 := (LR.out.below HB2.out).z1
    go_wp2
    refine bodyPost_ret (v := .tuple #[.agg #[.int .i64 0, .string ⟨#[]⟩], .bool false]) (by simp [results, Try.results42, go_sem, y0, y1]) rfl ⟨by rw [HE.out.1, HE.out.2.1, HE.out.2.2], ?_⟩
    have K9 : Kept (fun k => k = q + 1) w2 ((w2.setCell ⟨q + 1, 0, none⟩ (.int .i64 0)).setCell ⟨q + 1, 1, none⟩ (.string ⟨#[]⟩)) := Kept.setCell (S := fun k => k = q + 1) (Kept.setCell (S := fun k => k = q + 1) (Kept.refl _ w2) (p := ⟨q + 1, 0, none⟩) rfl _) (p := ⟨q + 1, 1, none⟩) rfl _
    exact HWB.out.trans ((HB2.out.mono HWB.out.size).trans (K9.below (fun k e => by have := HQ.out; omega) (Nat.le_trans HWB.out.size HB2.out.size)))
  | true =>
    rintro e w2 ⟨rfl, hb2⟩
    have HB2 : Hid (Below W.heap.size W w2) := hb2
    obtain ⟨h0, h1, hl, hok⟩ := gok_facts hg
    have HG : Hid (gokB ins l = true) := hg
    have HOK : Hid (okL ins l = true) := hok
    clear hg hb2 g0 g1 hok
    have g0 := (LG.out.below HB2.out).c0
    have g1 := (LG.out.below HB2.out).c1
    go_wp2_with fail
    refine (sWire _ ins a l c x h0 h1 hl).mono ?_
    cases hwx : wireB ins l x with
    | false =>
      rintro e w3 ⟨rfl, hb3⟩
      obtain ⟨e1, e2, e3⟩ := no_n (ins := ins) (l := l) (x := x) (fun e => by rw [hwx] at e; exact absurd e.2 (by simp))
      have HE : Hid (tgN ins l x = 0 ∧ tgS ins l x = ⟨#[]⟩ ∧ tgB ins l x = false) := ⟨e1, e2, e3⟩
      have HB3 : Hid (Below W.heap.size W w3) := HB2.out.trans (hb3.mono HB2.out.size)
      clear e1 e2 e3 hwx hb3 g0 g1
      have y0 := (LR.out.below HB3.out).c0
      have y1 := (LR.out.below HB3.out).c1
      have z0 := (LR.out.below HB3.out).z0
      have z1 := (LR.out.below HB3.out).z1
      go_wp2
      refine bodyPost_ret (v := .tuple #[.agg #[.int .i64 0, .string ⟨#[]⟩], .bool false]) (by simp [results, Try.results42, go_sem, y0, y1]) rfl ⟨by rw [HE.out.1, HE.out.2.1, HE.out.2.2], ?_⟩
      have K9 : Kept (fun k => k = q + 1) w3 ((w3.setCell ⟨q + 1, 0, none⟩ (.int .i64 0)).setCell ⟨q + 1, 1, none⟩ (.string ⟨#[]⟩)) := Kept.setCell (S := fun k => k = q + 1) (Kept.setCell (S := fun k => k = q + 1) (Kept.refl _ w3) (p := ⟨q + 1, 0, none⟩) rfl _) (p := ⟨q + 1, 1, none⟩) rfl _
      exact HWB.out.trans ((HB3.out.mono HWB.out.size).trans (K9.below (fun k e => by have := HQ.out; omega) (Nat.le_trans HWB.out.size HB3.out.size)))
    | true =>
      rintro e Z ⟨rfl, hb3⟩
      have HBZ : Hid (Below W.heap.size W Z) := HB2.out.trans (hb3.mono HB2.out.size)
      have HWX : Hid (wireB ins l x = true) := hwx
      have rx := of_decide_eq_true hwx
      clear hb3 hwx g0 g1
      obtain ⟨n, rfl⟩ : ∃ n : Nat, ins = (n : Int) := ⟨ins.toNat, by omega⟩
      have hn : n ≤ 12 := by omega
      have hp := (p12 hn).1
      have hp2 := (p12 hn).2
      have HE : Hid (tgN (n : Int) l x = (n : Int) ∧ tgS (n : Int) l x = bs (tab n (gtab n l x)) ∧ tgB (n : Int) l x = true) := by
        refine ⟨by unfold tgN; rw [if_pos ⟨HG.out, HWX.out⟩], by unfold tgS; rw [if_pos ⟨HG.out, HWX.out⟩, Int.toNat_natCast], by unfold tgB; rw [HG.out, HWX.out]; rfl⟩
      have HPW : Hid (∀ (k : Nat) (W' : World), k ≤ 12 → Calls Try.prog 51 #[.int .i64 (k : Int)] W' fun e w' => e = .returned (.int .i64 ((2 ^ k : Nat) : Int)) ∧ w' = W') := fun k W' hk => sPow k W' hk
      obtain ⟨P, hP⟩ : ∃ P, P = 2 ^ n := ⟨_, rfl⟩
      have HP : Hid (P = 2 ^ n) := hP
      rw [← hP] at hp hp2
      clear hP
      have HTA : Hid (tk (gtab n l x) P = tab n (gtab n l x)) := by show _ = _; rw [HP.out]; rfl
      go_upto_region 5 with fail
      obtain ⟨W4, hW4⟩ : ∃ W4, W4 = Z.alloc (.cells #[] 5) := ⟨_, rfl⟩
      have HO4 : Hid (Owu W4 Z.heap.size (.slice (some ⟨Z.heap.size, 0, none⟩) 0 0) (tk (gtab n l x) 0)) := by rw [hW4]; exact Owu.lit Z Z.heap.size (Nat.le_refl _)
      have HB4 : Hid (Below Z.heap.size Z W4) := by rw [hW4]; exact (Below.refl _ _).alloc (Nat.le_refl _) _
      rw [← hW4]
      clear hW4
      go_loopw [6, 7] (fun v i wr => ∃ k : Nat, k ≤ P ∧ i = .int .i64 k ∧ Owu wr Z.heap.size v (tk (gtab n l x) k) ∧ Below Z.heap.size Z wr) (fun _ i _ => P - (intOf i).toNat)
      case atStart => exact ⟨0, Nat.zero_le _, rfl, HO4.out, HB4.out⟩
      case round =>
        obtain ⟨k, hk, rfl, hou, hbw⟩ := hrel
        have HOU : Hid (Owu wr Z.heap.size u6 (tk (gtab n l x) k)) := hou
        have HBW : Hid (Below Z.heap.size Z wr) := hbw
        have HBR : Hid (Below W.heap.size W wr) := HBZ.out.trans (hbw.mono HBZ.out.size)
        have g0 := (LG.out.below HBR.out).c0
        have g1 := (LG.out.below HBR.out).c1
        clear hou hbw
        go_wp2_with fail
        refine (HPW.out n wr hn).mono ?_
        rw [← HP.out]
        rintro e w8 ⟨rfl, hw8⟩
        have hw8' := hw8.symm
        clear hw8
        subst hw8'
        by_cases hlt : k < P
        · have hkz : (k : Int) < (P : Int) := by omega
          clear g0 g1
          go_upto_region 9 with fail
          obtain ⟨W5, hW5⟩ : ∃ W5, W5 = wr.alloc (.cells #[] 3) := ⟨_, rfl⟩
          have HO5 : Hid (OwI W5 wr.heap.size (.slice (some ⟨wr.heap.size, 0, none⟩) 0 0) []) := by rw [hW5]; exact OwI.lit wr wr.heap.size (Nat.le_refl _)
          have HB5 : Hid (Below wr.heap.size wr W5) := by rw [hW5]; exact (Below.refl _ _).alloc (Nat.le_refl _) _
          rw [← hW5]
          clear hW5
          obtain ⟨V, hV⟩ : ∃ V, V = wr := ⟨_, rfl⟩
          rw [← hV] at HO5 HB5 HOU HBW HBR ⊢
          clear hV
          go_loopw [8, 9] (fun v i w8 => ∃ (j : Nat) (L : List Nat) (g cap : Nat), j ≤ n ∧ i = .int .i64 j ∧ v = .slice (some ⟨g, 0, none⟩) L.length cap ∧ L = pk n k j ∧ OwI w8 V.heap.size (.slice (some ⟨g, 0, none⟩) L.length cap) L ∧ Below V.heap.size V w8) (fun _ i _ => n - (intOf i).toNat)
          case atStart => exact ⟨0, [], _, 0, Nat.zero_le _, rfl, rfl, rfl, HO5.out, HB5.out⟩
          case round =>
            obtain ⟨j, L, g, cap, hj, rfl, rfl, hL, hO, hb8⟩ := hrel
            have HL : Hid (L = pk n k j) := hL
            have HO : Hid (OwI wr V.heap.size (.slice (some ⟨g, 0, none⟩) L.length cap) L) := hO
            have HB8 : Hid (Below V.heap.size V wr) := hb8
            have HBX : Hid (Below W.heap.size W wr) := HBR.out.trans (hb8.mono HBR.out.size)
            have g0 := (LG.out.below HBX.out).c0
            have g1 := (LG.out.below HBX.out).c1
            clear hL hO hb8
            by_cases hjn : j < n
            · have hjz : (j : Int) < (n : Int) := by omega
              have hsub : (n : Int) - 1 - (j : Int) = ((n - 1 - j : Nat) : Int) := by omega
              go_wp2_with fail
              refine (HPW.out (n - 1 - j) wr (by omega)).mono ?_
              have HYB : Hid ((pbit n j k).toNat = k / 2 ^ (n - 1 - j) % 2) := (bit_nat k (n - 1 - j)).symm
              have hpw := (p12 (n := n - 1 - j) (by omega)).1
              generalize 2 ^ (n - 1 - j) = pw at *
              generalize n - 1 - j = sj at *
              rintro e w9 ⟨rfl, hw9⟩
              have hw9' := hw9.symm
              clear hw9
              subst hw9'
              have td : (k : Int).tdiv (pw : Int) = ((k / pw : Nat) : Int) := by rw [Int.tdiv_eq_ediv_of_nonneg (by omega)]; push_cast; rfl
              have td' : (k : Int) / (pw : Int) = ((k / pw : Nat) : Int) := by push_cast; rfl
              have hdl : k / pw ≤ k := Nat.div_le_self _ _
              obtain ⟨y, hy⟩ : ∃ y, y = k / pw % 2 := ⟨_, rfl⟩
              have HY : Hid (y = (pbit n j k).toNat) := by show _ = _; rw [HYB.out, hy]
              have hy1 : y ≤ 1 := by omega
              generalize k / pw = kd at *
              have tm : ((kd : Nat) : Int).tmod 2 = (y : Int) := by rw [Int.tmod_eq_emod_of_nonneg (by omega)]; omega
              have tm' : ((kd : Nat) : Int) % 2 = (y : Int) := by omega
              have wkd : IntKind.i64.wrap (kd : Int) = (kd : Int) := by rw [IntKind.wrap_i64]; omega
              have hpz : ¬ (pw : Int) = 0 := by omega
              have hpz2 : ((pw : Int) == 0) = false := beq_eq_false_iff_ne.2 hpz
              clear hy HYB
              obtain ⟨L6, hL6⟩ : ∃ L6, L6 = pk n k (j + 1) := ⟨_, rfl⟩
              have HL6 : Hid (L6 = pk n k (j + 1)) := hL6
              have HLA : Hid (L ++ [y] = L6) := by show _ = _; rw [hL6, HL.out, HY.out]; exact pk_next n k j
              have hlen1 : L.length + [y].length ≤ 1048577 := by rw [HL.out]; simp [pk]; omega
              have HOA : Hid (OwI (wr.alloc (.cells #[.int .i64 (y : Int)] 3)) V.heap.size (.slice (some ⟨g, 0, none⟩) L.length cap) L) := HO.out.kept (S := fun _ => False) ((Kept.refl _ _).alloc _) (fun _ _ e => e)
              have HUA : Hid (Is (wr.alloc (.cells #[.int .i64 (y : Int)] 3)) wr.heap.size 0 [y]) := fun t ht => by
                have : t = 0 := by simp at ht; exact ht
                subst this
                rw [World.cell?_alloc_new]; rfl
              have HBA : Hid (Below V.heap.size V (wr.alloc (.cells #[.int .i64 (y : Int)] 3))) := HB8.out.alloc HB8.out.size _
              clear hL6 g0 g1
              go_wp2_with (at_builtin; refine app_is _ (by rfl) _ _ (by rfl) V.heap.size g cap wr.heap.size 0 1 L [y] (by rfl) (by rfl) HOA.out HUA.out HBA.out.size hlen1 L6 HLA.out ?_; intro g6 cp6 w6 ho6 hk6 hg6; have HO6 : Hid (OwI w6 V.heap.size (.slice (some ⟨g6, 0, none⟩) L6.length cp6) L6) := ho6; have HB6 : Hid (Below V.heap.size V w6) := HBA.out.trans (hk6.below (fun k e => by have := (HOA.out.lt g rfl).1; omega) HBA.out.size); clear ho6 hk6 hg6)
              go_roundw
              case rel => exact ⟨j + 1, L6, g6, cp6, by omega, by go_num, rfl, HL6.out, HO6.out, HB6.out⟩
              case measure => simp [intOf]; omega
            · have e : j = n := by omega
              subst e
              have HSV : Hid (Calls Try.prog 84 #[.agg #[.int .i64 (j : Int), .slice a l.length c], .slice (some ⟨g, 0, none⟩) L.length cap] wr fun e w' => (∃ g cp, e = .returned (.slice (some ⟨g, 0, none⟩) (vB (fun i => pbit j i k) j l l.length).length cp) ∧ OwI w' wr.heap.size (.slice (some ⟨g, 0, none⟩) (vB (fun i => pbit j i k) j l l.length).length cp) (vB (fun i => pbit j i k) j l l.length)) ∧ Below wr.heap.size wr w') := by
                have hu := HO.out.us
                have hll : L.length = j := by rw [HL.out]; simp [pk]
                rw [hll]
                rw [HL.out] at hu
                exact sVals wr j a c l (HA.out.below HBX.out) hn hl HOK.out (fun i => pbit j i k) g 0 cap hu
              go_wp2_with fail
              refine HSV.out.mono ?_
              rintro e w5 ⟨⟨g5, c5, rfl, hO5⟩, hb5⟩
              have HB5b : Hid (Below V.heap.size V w5) := HB8.out.trans (hb5.mono HB8.out.size)
              have hlv := vB_len (fun i => pbit j i k) j l l.length
              have hcx := hO5.cell (x / 2).toNat (by rw [hlv]; omega)
              rw [vB_get] at hcx
              have xr := xor_wv (vl (fun i => pbit j i k) j l l.length) x (by omega)
              have HGV : Hid (gtab j l x k = wv (vl (fun i => pbit j i k) j l l.length) x) := rfl
              have tx : x.tdiv 2 = (((x / 2).toNat : Nat) : Int) := by rw [Int.tdiv_eq_ediv_of_nonneg (by omega)]; omega
              have tx' : x / 2 = (((x / 2).toNat : Nat) : Int) := by omega
              have mx : x.tmod 2 = x % 2 := Int.tmod_eq_emod_of_nonneg (by omega)
              have lx : (((x / 2).toNat : Nat) : Int) < (((vB (fun i => pbit j i k) j l l.length).length : Nat) : Int) := by rw [hlv]; omega
              have wX : IntKind.i64.wrap (((x / 2).toNat : Nat) : Int) = (((x / 2).toNat : Nat) : Int) := by rw [IntKind.wrap_i64]; omega
              generalize (vB (fun i => pbit j i k) j l l.length).length = LL at *
              generalize (x / 2).toNat = X2 at *
              generalize ((vl (fun i => pbit j i k) j l l.length).getD X2 false).toNat = vx at *
              generalize wv (vl (fun i => pbit j i k) j l l.length) x = wx at *
              have hx2 : x ≤ 100000 := by omega
              clear hO5 hb5 g0 g1 hlv
              have HOW : Hid (Owu w5 Z.heap.size u6 (tk (gtab j l x) k)) := HOU.out.kept (S := fun _ => False) (Kept.ofBelow HB5b.out) (fun _ _ e => e)
              have HBZ5 : Hid (Below Z.heap.size Z w5) := HBW.out.trans (HB5b.out.mono HBW.out.size)
              have HTK : Hid (tk (gtab j l x) k ++ [sgn wx] = tk (gtab j l x) (k + 1)) := by show _ = _; rw [← HGV.out]; exact tk_next _ _
              have HTL : Hid ((tk (gtab j l x) k).length = k) := tk_len _ _
              have hsz5 : Z.heap.size ≤ w5.heap.size := HBZ5.out.size
              generalize tk (gtab j l x) k = T0 at *
              cases wx
              all_goals
                simp only [Bool.toNat_false, Bool.toNat_true, Int.natCast_zero, Int.natCast_one] at xr
                go_wp2_with (at_builtin; refine app_byte _ rfl _ _ rfl Z.heap.size u6 T0 (sgn _) _ (by first | exact show (49 : Int) = ((sgn true).toNat : Int) from rfl | exact show (48 : Int) = ((sgn false).toNat : Int) from rfl) rfl rfl HOW.out hsz5 (by rw [HTL.out]; omega) ?_; intro g6 cp6 w6 ho6 hk6 hg6; have HO6 : Hid (Owu w6 Z.heap.size (.slice (some ⟨g6, 0, none⟩) (T0.length + 1) cp6) (T0 ++ [sgn _])) := ho6; have HB6 : Hid (Below Z.heap.size Z w6) := HBZ5.out.trans (hk6.below (fun b hb => (HOW.out.lt b hb).1) hsz5); clear ho6 hk6 hg6)
                go_roundw
                case rel => exact ⟨k + 1, by omega, by go_num, by rw [← HTK.out]; exact HO6.out, HB6.out⟩
                case measure => simp [intOf]; omega
        · have e : k = P := by omega
          subst e
          have HLT : Hid ((tk (gtab n l x) k).length = k) := tk_len _ _
          have hcv : (convert 22 9 u6).run Try.prog wr = .ok (.string (bs (tk (gtab n l x) k))) wr := HOU.out.text (by rw [HLT.out]; exact hp)
          rw [HTA.out] at hcv
          obtain ⟨av, cv, hv, _⟩ := HOU.out.form
          subst hv
          generalize hTS : bs (tab n (gtab n l x)) = TS at *
          have y0 := (LR.out.below HBR.out).c0
          have y1 := (LR.out.below HBR.out).c1
          have z0 := (LR.out.below HBR.out).z0
          have z1 := (LR.out.below HBR.out).z1
          clear hTS
          go_wp2
          refine bodyPost_ret (v := .tuple #[.agg #[.int .i64 (n : Int), .string TS], .bool true]) (by simp [results, Try.results42, go_sem, y0, y1]) rfl ⟨by rw [HE.out.1, HE.out.2.1, HE.out.2.2], ?_⟩
          have K9 : Kept (fun k => k = q + 1) wr ((wr.setCell ⟨q + 1, 0, none⟩ (.int .i64 (n : Int))).setCell ⟨q + 1, 1, none⟩ (.string TS)) := Kept.setCell (S := fun k => k = q + 1) (Kept.setCell (S := fun k => k = q + 1) (Kept.refl _ wr) (p := ⟨q + 1, 0, none⟩) rfl _) (p := ⟨q + 1, 1, none⟩) rfl _
          exact HWB.out.trans ((HBR.out.mono HWB.out.size).trans (K9.below (fun k e => by have := HQ.out; omega) (Nat.le_trans HWB.out.size HBR.out.size)))

end Go.Proofs.Ytnpfegfjejfaaaa.Gs8

/- Small texts of mine, one behind the other. -/
import Derived.Test.YtjfikpfdhjbheaaGreatPkCL13
import Derived.Test.YtjfikpfdhjbheaaGreatPkCL18
import Derived.Test.YtjfikpfdhjbheaaGreatPkCL32
import Derived.Test.YtjfikpfdhjbheaaGreatPkCL29
/- The walk of the law FnClosed. -/
namespace Go.Proofs.YtjfikpfdhjbheaaGreat.Lcl1
open Go.RowKit
open Nd0 Nd3 Tm0 Tm4 Tm6 Tm14 Dw0 Dw5 Dw8 Lw4 Aq0 Aq12 Ap0 Vl1 Vl3 Vl5 Vc1 Ic4
open Dr0 (Cur Only Bytes Off)
open Lx1 (ITermOk)
open Lx3 (IFree)
open Lat (lat3)
open Am10 (sValid)
open Pb9 (iCloseAll)
open Pb12 (iValid)
open Ws1 (ret_int ret_bool)
set_option linter.unusedVariables false

def VPost (w : World) (e : Ending) (w' : World) : Prop :=
  ∃ (g c : Nat) (L : List Nd), e = .returned (.slice (some ⟨g, 0, none⟩) L.length c) ∧ Nodes w' (some ⟨g, 0, none⟩) L ∧ Below w.heap.size w w' ∧ 1 ≤ L.length ∧ L.length ≤ 81 ∧ L.length ≤ c

set_option maxHeartbeats 1000000 in
theorem drawValid (w : World) (a : Option Addr) (len cap : Nat) (hb : Bytes w a len) :
    Calls Tryz.prog 6 #[.slice a len cap] w (VPost w) := by
  have HB : Hid (Bytes w a len) := hb
  clear hb
  go_enter Tryz.func6, Tryz.ntmps6
  go_wp2_with fail
  refine (Dr4.new _ a len cap HB.out).mono ?_
  rintro e w1 ⟨rfl, hc, hb1⟩
  have HC : Hid (Cur w1 w.heap.size a len cap) := hc
  have HB1 : Hid (Below w.heap.size w w1) := hb1
  clear hc hb1
  go_wp2_with fail
  refine (openNodes _ w.heap.size a len cap HC.out (low_of HB.out)).mono ?_
  rintro e w2 ⟨g, c, L, rfl, hn, hbg, hgs, hcu, hk, h1, h2, h3⟩
  have HN2 : Hid (Nodes w2 (some ⟨g, 0, none⟩) L) := hn
  have HB2 : Hid (Below w.heap.size w w2) := HB1.out.trans (hk.below (fun k (e : k = w.heap.size) => by omega) HB1.out.size)
  clear hn hcu hk hgs hbg
  go_wp2
  go_ret
  exact ⟨g, c, L, rfl, HN2.out, HB2.out, h1, h2, h3⟩

theorem ints_cap {w : World} {B c : Nat} {a : Option Addr} {l : List Int} (h : Ows w B (.slice a l.length c) l) : Ints w a l ∧ l.length ≤ c := by
  obtain ⟨a', c', hv, hw⟩ := h.form
  simp only [Value.slice.injEq] at hv
  rw [hv.1]
  refine ⟨hw.ints, ?_⟩
  rcases h.2 with ⟨e, h0⟩ | ⟨g9, cap, cur, e, hb, hg, hn, _⟩
  · omega
  · simp only [Value.slice.injEq] at e
    omega
theorem cl_facts {L : List Nd} {X : Int} (h : holdsL (clL L) = some X) : clB L = true ∧ (freeL (clL L)).length = 0 ∧ (clL L).length = L.length + (freeL L).length ∧ (X = 0 ∨ X = 1) ∧ ∀ E y, valueL L E = some y → X = 1 → y = 1 := by
  obtain ⟨h1, hT, hw, hA, hl, hs, hv, hx⟩ := holds_closed h
  refine ⟨h1, ?_, ?_, hx, ?_⟩
  · rw [hl]; exact ((sent_iff _).1 hs).2.2.1
  · have h9 := clTo_length hT 8 (Nat.le_refl _)
    have e0 : freeTo L (8 - 8) = [] := rfl
    rw [e0, List.length_nil] at h9
    rw [hl]
    unfold clAll freeL
    rw [hT, if_pos rfl, List.length_append]
    omega
  · intro E y hy h1x
    subst h1x
    obtain ⟨_, he, _, hf, hxx⟩ := value_parts.1 hy
    rw [← hxx]
    exact closed_one hT hw hA hv he hf
theorem freeL_le (l : List Nd) : (freeL l).length ≤ 8 := by
  unfold freeL
  split
  · exact freeTo_length l 8
  · exact Nat.zero_le _

set_option maxRecDepth 100000 in
set_option maxHeartbeats 8000000 in
theorem lawClosed (hTO : ITermOk) (hFR : IFree) (hVA : IValue) (hHO : IHolds) (w : World) (a : Option Addr) (len cap : Nat) (hb : Bytes w a len) :
    Calls Tryz.prog 3 #[.slice a len cap] w fun e w' => e = .returned (.bool true) ∧ Below w.heap.size w w' := by
  have HB : Hid (Bytes w a len) := hb
  have HTO : Hid ITermOk := hTO
  have HFR : Hid IFree := hFR
  have HVA : Hid IValue := hVA
  have HHO : Hid IHolds := hHO
  clear hTO hFR hVA hHO
  by_cases hs : 1048576 < len
  · clear hb
    go_enter Tryz.func3, Tryz.ntmps3
    go_wp2_with fail
    refine (lbig _ a len cap true (by simp; omega)).mono ?_
    rintro e w' ⟨rfl, rfl⟩
    go_wp2
    go_ret
    exact ⟨rfl, Below.refl _ _⟩
  have hsl : len ≤ 1048576 := by omega
  clear hb
  go_enter Tryz.func3, Tryz.ntmps3
  go_wp2_with fail
  refine (lbig _ a len cap false (by simp; omega)).mono ?_
  rintro e w0 ⟨rfl, hz⟩
  have hz' := hz.symm
  clear hz
  subst hz'
  go_wp2_with fail
  refine (drawValid _ a len cap HB.out).mono ?_
  rintro e w1 ⟨g, c, L, rfl, hn, hb1, hl1, hl2, hcL⟩
  have HCL : Hid (L.length ≤ c) := hcL
  have HN1 : Hid (Nodes w1 (some ⟨g, 0, none⟩) L) := hn
  have HB1 : Hid (Below w.heap.size w w1) := hb1
  clear hn hb1 hcL
  have HIV : Hid (∀ W, Nodes W (some ⟨g, 0, none⟩) L → Calls Tryz.prog 7 #[.slice (some ⟨g, 0, none⟩) L.length c] W fun e w' => e = .returned (.tuple #[.int .i64 ((holdsL (clL L)).getD 0), .bool (holdsL (clL L)).isSome]) ∧ Below W.heap.size W w') := fun W h => iValid HTO.out HHO.out W _ L c h HCL.out
  have HSV : Hid (∀ W, Nodes W (some ⟨g, 0, none⟩) L → Calls Tryz.prog 8 #[.slice (some ⟨g, 0, none⟩) L.length c] W fun e w' => e = .returned (.tuple #[.int .i64 ((holdsL (clL L)).getD 0), .bool (holdsL (clL L)).isSome]) ∧ Below W.heap.size W w') := fun W h => sValid W _ L c h
  cases hh : holdsL (clL L) with
  | none =>
    rw [hh] at HIV HSV
    clear hh
    go_wp2_with fail
    refine (HIV.out _ HN1.out).mono ?_
    rintro e w2 ⟨rfl, hb2⟩
    have HN2 : Hid (Nodes w2 (some ⟨g, 0, none⟩) L) := HN1.out.below hb2
    have HB2 : Hid (Below w.heap.size w w2) := HB1.out.trans (hb2.mono HB1.out.size)
    clear hb2 HN1 HB1
    go_wp2_with fail
    refine (HSV.out _ HN2.out).mono ?_
    rintro e w3 ⟨rfl, hb3⟩
    have HN3 : Hid (Nodes w3 (some ⟨g, 0, none⟩) L) := HN2.out.below hb3
    have HB3 : Hid (Below w.heap.size w w3) := HB2.out.trans (hb3.mono HB2.out.size)
    clear hb3 HN2 HB2 HIV HSV
    go_wp2_with fail
    refine (iCloseAll HTO.out _ _ L c HN3.out HCL.out).mono ?_
    rintro e w4 ⟨⟨a4, c4, rfl, hw4, hc4⟩, hb4⟩
    have HB4 : Hid (Below w.heap.size w w4) := HB3.out.trans (hb4.mono HB3.out.size)
    clear hw4 hc4 hb4 HN3 HB3
    go_wp2_with fail
    go_ret
    exact ⟨rfl, HB4.out⟩
  | some X =>
    obtain ⟨hcb, hf0, hln, hx01, hval⟩ := cl_facts hh
    rw [hh] at HIV HSV
    have HCB : Hid (clB L = true) := hcb
    have HF0 : Hid ((freeL (clL L)).length = 0) := hf0
    have HVAL : Hid (∀ E y, valueL L E = some y → X = 1 → y = 1) := hval
    have hfl : (freeL L).length ≤ 8 := freeL_le L
    clear hh hcb hf0 hval
    have hxx : (X != X) = false := by simp
    go_wp2_with fail
    refine (HIV.out _ HN1.out).mono ?_
    rintro e w2 ⟨rfl, hb2⟩
    have HN2 : Hid (Nodes w2 (some ⟨g, 0, none⟩) L) := HN1.out.below hb2
    have HB2 : Hid (Below w.heap.size w w2) := HB1.out.trans (hb2.mono HB1.out.size)
    clear hb2 HN1 HB1
    go_wp2_with fail
    refine (HSV.out _ HN2.out).mono ?_
    rintro e w3 ⟨rfl, hb3⟩
    have HN3 : Hid (Nodes w3 (some ⟨g, 0, none⟩) L) := HN2.out.below hb3
    have HB3 : Hid (Below w.heap.size w w3) := HB2.out.trans (hb3.mono HB2.out.size)
    clear hb3 HN2 HB2 HIV HSV
    go_wp2_with fail
    refine (iCloseAll HTO.out _ _ L c HN3.out HCL.out).mono ?_
    rw [HCB.out]
    rintro e w4 ⟨⟨a4, c4, rfl, hw4, hc4⟩, hb4⟩
    obtain ⟨U, hU⟩ : ∃ U, U = clL L := ⟨_, rfl⟩
    have hu80 : U.length ≤ 80 := by rw [hU]; exact clL_le L
    rw [← hU] at hw4 hc4 HF0 hln ⊢
    have HNU : Hid (Nodes w4 a4 U) := hw4.nodes
    have HCU : Hid (U.length ≤ c4) := hc4
    have HN4 : Hid (Nodes w4 (some ⟨g, 0, none⟩) L) := HN3.out.below hb4
    have HB4 : Hid (Below w.heap.size w w4) := HB3.out.trans (hb4.mono HB3.out.size)
    have HLN : Hid (U.length = L.length + (freeL L).length) := hln
    clear hw4 hc4 hb4 HN3 HB3 hU HCB hln
    go_wp2_with fail
    refine (HFR.out _ a4 U c4 HNU.out HCU.out (by omega)).mono ?_
    rw [HF0.out]
    rintro e w5 ⟨⟨a5, c5, rfl, -⟩, hb5⟩
    have HN5 : Hid (Nodes w5 (some ⟨g, 0, none⟩) L) := HN4.out.below hb5
    have HB5 : Hid (Below w.heap.size w w5) := HB4.out.trans (hb5.mono HB4.out.size)
    clear hb5 HN4 HB4 HNU
    go_wp2_with fail
    refine (HFR.out _ _ L c HN5.out HCL.out (by omega)).mono ?_
    rintro e w6 ⟨⟨a6, c6, rfl, -⟩, hb6⟩
    have HN6 : Hid (Nodes w6 (some ⟨g, 0, none⟩) L) := HN5.out.below hb6
    have HB6 : Hid (Below w.heap.size w w6) := HB5.out.trans (hb6.mono HB5.out.size)
    clear hb6 HN5 HB5
    have hdd : ((U.length : Int) != (L.length : Int) + ((freeL L).length : Int)) = false := by have h9 := HLN.out; simp; omega
    go_wp2_with fail
    go_loopw [10] (fun q wr => ∃ k : Nat, k ≤ 8 ∧ q = .int .i64 (k : Int) ∧ Nodes wr (some ⟨g, 0, none⟩) L ∧ Below w.heap.size w wr) (fun q _ => 8 - (intOf q).toNat)
    case atStart => exact ⟨0, Nat.zero_le _, rfl, HN6.out, HB6.out⟩
    case round =>
      clear HN6 HB6 hdd
      obtain ⟨k, hk, rfl, hn, hb⟩ := hrel
      have HN : Hid (Nodes wr (some ⟨g, 0, none⟩) L) := hn
      have HBW : Hid (Below w.heap.size w wr) := hb
      clear hn hb
      by_cases hlt : k < 8
      · have hlz : (k : Int) < 8 := by omega
        obtain ⟨wi, rfl⟩ : ∃ wi : World, wi = wr := ⟨_, rfl⟩
        go_wp2_with fail
        go_loopw [11, 12] (fun ev q wr => ∃ (j : Nat) (E : List Int), j ≤ 8 ∧ q = .int .i64 (j : Int) ∧ E.length = j ∧ Ows wr wi.heap.size ev E ∧ Below wi.heap.size wi wr) (fun _ q _ => 8 - (intOf q).toNat)
        case atStart => exact ⟨0, [], Nat.zero_le _, rfl, rfl, Ows.lit _ _ (Nat.le_refl _), (Below.refl _ _).alloc (Nat.le_refl _) _⟩
        case round =>
          obtain ⟨j, E, hj, rfl, hel, ho, hb⟩ := hrel
          obtain ⟨ae, ce, rfl, -⟩ := ho.form
          have HO : Hid (Ows wr wi.heap.size (.slice ae E.length ce) E) := ho
          have HBI : Hid (Below wi.heap.size wi wr) := hb
          have HEL : Hid (E.length = j) := hel
          have hE8 : E.length ≤ 8 := by omega
          have hws : wi.heap.size ≤ wr.heap.size := hb.size
          clear ho hb hel
          by_cases hlj : j < 8
          · have hljz : (j : Int) < 8 := by omega
            obtain ⟨x, hx0, hx1, hxc⟩ := lat3 wr a len cap ((k : Int) * 8 + (j : Int)) (by omega) (by omega) (HB.out.below (HBW.out.trans (HBI.out.mono HBW.out.size))) hsl
            have HXC : Hid (Calls Tryz.prog 11 #[.slice a len cap, .int .i64 ((k : Int) * 8 + (j : Int))] wr fun e w' => e = .returned (.int .i64 x) ∧ w' = wr) := hxc wr (Below.refl _ _)
            clear hxc
            go_wp2_with fail
            refine HXC.out.mono ?_
            rintro e w' ⟨rfl, hz⟩
            have hz' := hz.symm
            clear hz HXC
            subst hz'
            have hr0 : 0 ≤ x % 4 := by omega
            have hr1 : x % 4 ≤ 3 := by omega
            go_wp2_with (at_builtin; go_must (refine app_int _ rfl _ _ rfl wi.heap.size (.slice ae E.length ce) E _ rfl rfl HO.out hws (by omega) ?_; intro g7 cp7 w7 ho7 hk7 hg7))
            have HO7 : Hid (Ows w7 wi.heap.size (.slice (some ⟨g7, 0, none⟩) (E.length + 1) cp7) (E ++ [x % 4])) := ho7
            have HB7 : Hid (Below wi.heap.size wi w7) := HBI.out.trans (hk7.below (fun b hb => (HO.out.lt b hb).1) hws)
            clear ho7 hk7 hg7
            go_wp2_with fail
            go_roundw
            case rel => exact ⟨j + 1, E ++ [x % 4], by omega, by go_num, by rw [List.length_append, HEL.out]; rfl, HO7.out, HB7.out⟩
            case measure => simp [intOf]; omega
          · have e : j = 8 := by omega
            have HIN : Hid (Ints wr ae E ∧ E.length ≤ ce) := ints_cap HO.out
            have HN9 : Hid (Nodes wr (some ⟨g, 0, none⟩) L) := HN.out.below HBI.out
            have HB9 : Hid (Below w.heap.size w wr) := HBW.out.trans (HBI.out.mono HBW.out.size)
            subst e
            clear HO HBI hws HN
            have HVC : Hid (Calls Tryz.prog 12 #[.slice (some ⟨g, 0, none⟩) L.length c, .slice ae E.length ce] wr fun x w' => x = .returned (.tuple #[.int .i64 ((valueL L E).getD 0), .bool (valueL L E).isSome]) ∧ Below wr.heap.size wr w') := HVA.out wr _ ae L E c ce HN9.out HCL.out (by omega) HIN.out.1 HIN.out.2
            cases hv : valueL L E with
            | none =>
              rw [hv] at HVC
              clear hv
              go_wp2_with fail
              refine HVC.out.mono ?_
              rintro e w9 ⟨rfl, hb9⟩
              have HN10 : Hid (Nodes w9 (some ⟨g, 0, none⟩) L) := HN9.out.below hb9
              have HB10 : Hid (Below w.heap.size w w9) := HB9.out.trans (hb9.mono HB9.out.size)
              clear hb9
              go_wp2_with fail
              go_roundw
              case rel => exact ⟨k + 1, by omega, by go_num, HN10.out, HB10.out⟩
              case measure => simp [intOf]; omega
            | some y =>
              have HY : Hid (X = 1 → y = 1) := HVAL.out E y hv
              rw [hv] at HVC
              clear hv
              cases hX : (X == 1)
              · go_wp2_with fail
                refine HVC.out.mono ?_
                rintro e w9 ⟨rfl, hb9⟩
                have HN10 : Hid (Nodes w9 (some ⟨g, 0, none⟩) L) := HN9.out.below hb9
                have HB10 : Hid (Below w.heap.size w w9) := HB9.out.trans (hb9.mono HB9.out.size)
                clear hb9
                go_wp2_with fail
                go_roundw
                case rel => exact ⟨k + 1, by omega, by go_num, HN10.out, HB10.out⟩
                case measure => simp [intOf]; omega
              · have hy1 : y = 1 := HY.out (by simpa using hX)
                have hyn : (y != 1) = false := by rw [hy1]; rfl
                clear hy1
                go_wp2_with fail
                refine HVC.out.mono ?_
                rintro e w9 ⟨rfl, hb9⟩
                have HN10 : Hid (Nodes w9 (some ⟨g, 0, none⟩) L) := HN9.out.below hb9
                have HB10 : Hid (Below w.heap.size w w9) := HB9.out.trans (hb9.mono HB9.out.size)
                clear hb9
                go_wp2_with fail
                go_roundw
                case rel => exact ⟨k + 1, by omega, by go_num, HN10.out, HB10.out⟩
                case measure => simp [intOf]; omega
      · have e : k = 8 := by omega
        subst e
        go_wp2_with fail
        go_ret
        exact ⟨rfl, HBW.out⟩

end Go.Proofs.YtjfikpfdhjbheaaGreat.Lcl1

/- Walks of the program's usedOnly and partsAhead. -/
namespace Go.Proofs.YtjfikpfdhjbheaaGreat.Pg3
open Go.RowKit
open Nd0 Tm0 Tm5 Pl1 Ap0 Pg1 Pg2
open Ws1 (ret_int ret_bool)
set_option linter.unusedVariables false

def used (n : Nd) : Nd :=
  ⟨n.op, n.w, if numbered n.op then n.k else 0, if 0 < cnt n.op then n.a else 0, if 1 < cnt n.op ∨ quant n.op = true then n.b else 0, if 2 < cnt n.op then n.c else 0⟩

set_option maxHeartbeats 4000000 in
theorem iUsed (n : Nd) (w : World) :
    Calls Tryz.prog 85 #[.agg #[.int .i64 n.op, .int .i64 n.w, .int .i64 n.k, .int .i64 n.a, .int .i64 n.b, .int .i64 n.c]] w fun e w' => e = .returned (.agg #[.int .i64 (used n).op, .int .i64 (used n).w, .int .i64 (used n).k, .int .i64 (used n).a, .int .i64 (used n).b, .int .i64 (used n).c]) ∧ Below w.heap.size w w' := by
  have HU : ∀ m : Nd, m = used n → Hid (m = used n) := fun m h => h
  have hc3 := cnt_le n.op
  have HC : Hid (cnt n.op = 0 ∨ cnt n.op = 1 ∨ cnt n.op = 2 ∨ cnt n.op = 3) := by show _ ∨ _; omega
  have HV : Hid (used n = ⟨n.op, n.w, if numbered n.op then n.k else 0, if 0 < cnt n.op then n.a else 0, if 1 < cnt n.op ∨ quant n.op = true then n.b else 0, if 2 < cnt n.op then n.c else 0⟩) := rfl
  clear HU hc3
  generalize used n = u at HV ⊢
  cases hn : numbered n.op <;> cases hq : quant n.op <;> rcases HC.out with hc | hc | hc | hc
  all_goals
    have HN : Hid (numbered n.op = _) := hn
    have HQ : Hid (quant n.op = _) := hq
    have HK : Hid (cnt n.op = _) := hc
    go_enter Tryz.func85, Tryz.ntmps85
    go_wp2_with (first | (go_at_call 88; refine (iCount _ _).mono ?_; rintro e w' ⟨rfl, rfl⟩; rw [hc]) | (go_at_call 115; refine (iNumbered _ _).mono ?_; rintro e w' ⟨rfl, rfl⟩; rw [hn]) | (go_at_call 50; refine (iQuant _ _).mono ?_; rintro e w' ⟨rfl, rfl⟩; rw [hq]))
    refine bodyPost_ret (v := .agg #[.int .i64 u.op, .int .i64 u.w, .int .i64 u.k, .int .i64 u.a, .int .i64 u.b, .int .i64 u.c]) ?_ rfl ⟨rfl, ?_⟩
    · have h9 := HV.out
      rw [HN.out, HQ.out, HK.out] at h9
      simp at h9
      subst h9
      simp [results, Tryz.results85, go_sem]
    · exact (((Below.refl _ _).alloc (Nat.le_refl _) _).alloc (by simp) _).alloc (by simp; omega) _

def pahead (n : Nd) (i : Int) : Bool := (parts n).all fun p => decide (0 ≤ p ∧ p < i)

set_option maxHeartbeats 1000000 in
theorem iAhead (n : Nd) (i : Int) (w : World) :
    Calls Tryz.prog 86 #[.agg #[.int .i64 n.op, .int .i64 n.w, .int .i64 n.k, .int .i64 n.a, .int .i64 n.b, .int .i64 n.c], .int .i64 i] w fun e w' => e = .returned (.bool (pahead n i)) ∧ Below w.heap.size w w' := by
  go_enter Tryz.func86, Tryz.ntmps86
  go_wp2_with fail
  refine (iParts n _).mono ?_
  rintro e w1 ⟨⟨pa, pc, rfl, hpi⟩, hb1⟩
  have HP : Hid (Ints w1 pa (parts n)) := hpi.ints
  have HB1 : Hid (Below w.heap.size w w1) := ((Below.refl _ _).alloc (Nat.le_refl _) _).trans (hb1.mono (by simp))
  have hpl := parts_le n
  clear hpi hb1
  go_wp2_with fail
  go_loop [10] (fun q => ∃ k : Nat, k ≤ (parts n).length ∧ q = .int .i64 k ∧ ∀ j (h : j < (parts n).length), j < k → 0 ≤ (parts n)[j] ∧ (parts n)[j] < i) (fun q => (parts n).length - (intOf q).toNat)
  case atStart => exact ⟨0, Nat.zero_le _, rfl, fun j _ hj => by omega⟩
  case round =>
    obtain ⟨k, hk, rfl, hall⟩ := hrel
    have HA : Hid (∀ j (h : j < (parts n).length), j < k → 0 ≤ (parts n)[j] ∧ (parts n)[j] < i) := hall
    clear hall
    by_cases hlt : k < (parts n).length
    · have hlz : (k : Int) < ((parts n).length : Int) := by omega
      rcases HP.out.2 with h0 | ⟨pb, po, rfl, hpc⟩
      · omega
      have pk := hpc k hlt
      clear hpc
      have HBAD : Hid (¬ (0 ≤ (parts n)[k] ∧ (parts n)[k] < i) → pahead n i = false) := by
        show _ → _
        intro h
        unfold pahead
        rw [List.all_eq_false]
        exact ⟨_, List.getElem_mem hlt, by simpa using h⟩
      have HEQ : Hid (∀ x : Int, x = (parts n)[k] → (0 ≤ x ∧ x < i) → ∀ j (h : j < (parts n).length), j < k + 1 → 0 ≤ (parts n)[j] ∧ (parts n)[j] < i) := by
        show ∀ _, _
        intro x hx hxi j h hj
        by_cases e : j = k
        · subst e; subst hx; exact hxi
        · exact HA.out j h (by omega)
      obtain ⟨x, hx⟩ : ∃ x : Int, x = (parts n)[k] := ⟨_, rfl⟩
      rw [← hx] at pk HBAD
      have HX : Hid (x = (parts n)[k]) := hx
      clear hx
      by_cases h1 : x < 0
      · go_wp2
        go_ret
        exact ⟨ret_bool (HBAD.out (by omega)).symm, HB1.out⟩
      · by_cases h2 : i ≤ x
        · go_wp2
          go_ret
          exact ⟨ret_bool (HBAD.out (by omega)).symm, HB1.out⟩
        · go_wp2
          go_round
          case rel => exact ⟨k + 1, by omega, by go_num, HEQ.out x HX.out ⟨by omega, by omega⟩⟩
          case measure => simp [intOf]; omega
    · have HT : Hid (pahead n i = true) := by
        show pahead n i = true
        unfold pahead
        rw [List.all_eq_true]
        intro p hp
        obtain ⟨j, hj, rfl⟩ := List.getElem_of_mem hp
        simpa using HA.out j hj (by omega)
      go_wp2
      go_ret
      exact ⟨ret_bool HT.out.symm, HB1.out⟩

end Go.Proofs.YtjfikpfdhjbheaaGreat.Pg3

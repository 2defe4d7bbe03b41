/- The model's ReadPick. -/
import Derived.Deep.RegionLaw
import Derived.Maps.AppendAt
import Derived.Test.YtlpbfbghgacjiaaWp5
import Derived.Test.YtlpbfbghgacjiaaWp2
namespace Go.Proofs.Ytlpbfbghgacjiaa.Wp6
open Go.RowKit
open Nd0 (Kept Ints WInts IntsIn lt_of_cell)
open Ap0
open Ss0 (bs bs_size)
open Ss1 (tl tl_length)
open Tc5 (Lay)
open Wp0 Wp1 Wp2 Wp3 Wp4 Wp5
set_option linter.unusedVariables false

/-- One more number, at a step of a region that draws. -/
theorem step_int {ops : Array Oper} {o : Oper} {a : Act} {K : Act → World → Prop} {Q : Exit → Act → World → Prop} {E : Prop} (W : World) (hgd : o.guard = none) (s x : Operand)
    (ho : o.op = .call { callee := .builtin .append, args := #[s, x], argTypes := #[35, 35] })
    (B : Nat) (v : Value) (l : List Int) (y : Int) (hs : a.eval s = v) (G : Nat) (hx : a.eval x = .slice (some ⟨G, 0, none⟩) 1 1) (hy : W.cell? ⟨G, 0, none⟩ = some (.int .i64 y))
    (hown : Ows W B v l) (hB : B ≤ W.heap.size) (hlen : l.length ≤ 1048576)
    (h : ∀ g cap w', Ows w' B (.slice (some ⟨g, 0, none⟩) (l.length + 1) cap) (l ++ [y]) → Kept (fun k => v.ownBlock = some k) W w' → (v.ownBlock = some g ∨ W.heap.size ≤ g) → K (a.put o.dst (.slice (some ⟨g, 0, none⟩) (l.length + 1) cap)) w') :
    if Region.wanted o (yielded ops a.tmps) = true then Oper.wp Try.prog o a W K Q else E := by
  obtain ⟨i, hi, hzz⟩ := Option.map_eq_some_iff.1 infoInt
  simp only [Prod.mk.injEq] at hzz
  obtain ⟨hz, hsz, hb⟩ := hzz
  refine step_append_lies W hgd s x 35 ho B 3 i _ 1 8 Try.underlying35 hi hz hsz hb rfl (by omega) v l.length (l.map fun x => .int .i64 x) hs hown
    ⟨G, 0, none⟩ 1 1 [.int .i64 y] hx rfl ?_ (by intro u hu; simp at hu; subst hu; rfl) (by omega) (by unfold maxLen; omega) (by omega) hB _ rfl ?_
  · intro j u hu
    have hj : j < 1 := (List.getElem?_eq_some_iff.1 hu).1
    have hadd : (⟨G, 0, none⟩ : Addr).add j = ⟨G, j, none⟩ := by unfold Addr.add; split <;> simp_all
    rw [hadd]
    match j, hj with
    | 0, _ => rw [hy]; exact hu
  · intro g cap w' h1 h2 h3 h4
    refine h g cap w' ?_ ?_ ?_
    · unfold Ows
      simpa using h1
    · exact ⟨h2.os, h2.tape, h2.output, h2.size, fun k hk hn => h2.block k hk (fun e => hn e.symm)⟩
    · rcases h3 with h3 | h3
      · exact .inl h3
      · exact .inr (by rw [h3]; exact Nat.le_refl _)
open Classical in
noncomputable def okM (t : List UInt8) : Bool := decide ((3 ≤ t.length ∧ t.length ≤ 20) ∧ pkT (mL t) (mV t) = bs t)
def RdM (w : World) (t : List UInt8) (e : Ending) (w' : World) : Prop := if okM t = true then RdOut w (mL t) (mV t) true e w' else RdOut w [] 0 false e w'
/-- What stands while the values are read. -/
structure Rs (w W : World) (v : Value) (l : List Int) (V : Int) : Prop where
  bel : Below w.heap.size w W
  res : Lay W w.heap.size (.slice none 0 0) (.int .i64 0)
  box : Lay W (w.heap.size + 1) v (.int .i64 V)
  own : Ows W (w.heap.size + 2) v l
theorem Rs.below {w W W' : World} {v : Value} {l : List Int} {V : Int} (h : Rs w W v l V) (k : Below W.heap.size W W') : Rs w W' v l V :=
  ⟨h.bel.trans (k.mono h.bel.size), h.res.below k, h.box.below k, h.own.kept (S := fun _ => False) (Kept.ofBelow k) (fun _ _ h => h)⟩
theorem Rs.put {w W W' : World} {v v' : Value} {l l' : List Int} {V : Int} (h : Rs w W v l V) (k : Kept (fun i => v.ownBlock = some i) W W') (ho : Ows W' (w.heap.size + 2) v' l') : Rs w (W'.setCell ⟨w.heap.size + 1, 0, none⟩ v') v' l' V := by
  have hn : ∀ i, v.ownBlock = some i → w.heap.size + 2 ≤ i := fun i hi => (h.own.lt i hi).1
  have hr := h.res.kept k (fun e => by have := hn _ e; omega)
  have hx := h.box.kept k (fun e => by have := hn _ e; omega)
  have K2 : Kept (fun b => b = w.heap.size + 1) W' (W'.setCell ⟨w.heap.size + 1, 0, none⟩ v') := (Kept.refl (fun b => b = w.heap.size + 1) W').setCell (p := ⟨w.heap.size + 1, 0, none⟩) rfl _
  refine ⟨(h.bel.trans (k.below (fun i hi => by have := hn i hi; omega) h.bel.size)).trans (K2.below (fun b hb => by omega) (Nat.le_trans h.bel.size k.size)), hr.kept K2 (by omega), ⟨Nd0.set_same hx.c0, by rw [Nd0.set_other (by simp)]; exact hx.c1, by rw [World.frozen?_setCell]; exact hx.f0, by rw [World.frozen?_setCell]; exact hx.f1⟩, ho.kept K2 (fun i hi e => by have := (ho.lt i hi).1; omega)⟩

set_option maxRecDepth 100000 in
set_option maxHeartbeats 4000000 in
theorem sReadPick (S : ByteArray) (w : World) (hS : S.size ≤ 1048576) :
    Calls Try.prog 37 #[.string S] w (RdM w (tl S)) := by
  have hlen := tl_length S
  obtain ⟨X0, hX0⟩ : ∃ X, X = w.alloc (.cells #[.slice none 0 0, .int .i64 0] 60) := ⟨_, rfl⟩
  have HB0 : Hid (Below w.heap.size w X0) := by rw [hX0]; exact (Below.refl _ _).alloc (Nat.le_refl _) _
  have HL0 : Hid (Lay X0 w.heap.size (.slice none 0 0) (.int .i64 0)) := by rw [hX0]; exact Lay.made _ _ _ _
  have hE : w.alloc (.cells #[.slice none 0 0, .int .i64 0] 60) = X0 := hX0.symm
  have HSZ0 : Hid (X0.heap.size = w.heap.size + 1) := by show _ = _; rw [hX0]; simp
  clear hX0
  have HFIN : Hid (∀ W' : World, Below w.heap.size w W' → okM (tl S) = false → RdM w (tl S) (.returned (.tuple #[pv none 0 0 0, .bool false])) W') := fun W' hb ho => by
    unfold RdM
    rw [ho, if_neg (by simp)]
    exact ⟨none, 0, rfl, ⟨Nat.zero_le _, .inl rfl⟩, hb⟩
  by_cases hn : S.size < 3 ∨ 20 < S.size
  · have HO : Hid (okM (tl S) = false) := by
      show _ = _
      unfold okM
      exact decide_eq_false (fun h => by have := h.1; omega)
    obtain ⟨d0, d1, d2, d3⟩ := HL0.out
    have hd := HL0.out.lt
    by_cases h3 : (S.size : Int) < 3
    · go_enter Try.func37, Try.ntmps37
      go_wp2
      clear d0 d1 d2 d3 hd
      have L := HL0.out.put (.slice none 0 0) (.int .i64 0)
      have K : Kept (fun b => b = w.heap.size) X0 ((X0.setCell ⟨w.heap.size, 0, none⟩ (.slice none 0 0)).setCell ⟨w.heap.size, 1, none⟩ (.int .i64 0)) := ((Kept.refl (fun b => b = w.heap.size) X0).setCell (p := ⟨w.heap.size, 0, none⟩) rfl _).setCell (p := ⟨w.heap.size, 1, none⟩) rfl _
      obtain ⟨d0, d1, _, _⟩ := L
      exact bodyPost_ret (v := .tuple #[pv none 0 0 0, .bool false]) (by simp [results, Try.results37, go_sem, d0, d1]) rfl (HFIN.out _ (HB0.out.trans (K.below (fun b hb => by omega) HB0.out.size)) HO.out)
    · have h20 : (20 : Int) < (S.size : Int) := by omega
      go_enter Try.func37, Try.ntmps37
      go_wp2
      clear d0 d1 d2 d3 hd
      have L := HL0.out.put (.slice none 0 0) (.int .i64 0)
      have K : Kept (fun b => b = w.heap.size) X0 ((X0.setCell ⟨w.heap.size, 0, none⟩ (.slice none 0 0)).setCell ⟨w.heap.size, 1, none⟩ (.int .i64 0)) := ((Kept.refl (fun b => b = w.heap.size) X0).setCell (p := ⟨w.heap.size, 0, none⟩) rfl _).setCell (p := ⟨w.heap.size, 1, none⟩) rfl _
      obtain ⟨d0, d1, _, _⟩ := L
      exact bodyPost_ret (v := .tuple #[pv none 0 0 0, .bool false]) (by simp [results, Try.results37, go_sem, d0, d1]) rfl (HFIN.out _ (HB0.out.trans (K.below (fun b hb => by omega) HB0.out.size)) HO.out)
  have hn3 : ¬ (S.size : Int) < 3 := by omega
  have hn20 : ¬ (20 : Int) < (S.size : Int) := by omega
  obtain ⟨N, hN⟩ : ∃ N, S.size = N + 2 := ⟨S.size - 2, by omega⟩
  have HN : Hid (S.size = N + 2) := hN
  have hsn : ((S.size : Int) - 1).toNat = N + 1 := by omega
  have hN1 : N + 1 < S.size := by omega
  have hN0 : 0 < S.size := by omega
  obtain ⟨V, hV⟩ : ∃ V : Int, V = (S[N + 1].toNat : Int) - 48 := ⟨_, rfl⟩
  have hb1 : (S[N + 1].toNat : Int) < 256 := by have := S[N + 1].toNat_lt; omega
  have hw1 : wrap64 (S[N + 1].toNat : Int) = (S[N + 1].toNat : Int) := by unfold wrap64; omega
  have hw2 : wrap64 ((S[N + 1].toNat : Int) - 48) = (S[N + 1].toNat : Int) - 48 := by unfold wrap64; omega
  have HVE : Hid (V = (S[N + 1].toNat : Int) - 48) := hV
  have HV : Hid (V = mV (tl S)) := by
    show _ = _
    unfold mV un
    rw [hV, hlen, hN, show N + 2 - 1 = N + 1 by omega]
    have : (tl S).getD (N + 1) 0 = S[N + 1] := by
      rw [Ss1.tl_get S (N + 1) hN1]
      simp [List.getD, hlen, hN1]
    rw [this]
  clear hN hn hlen hV
  go_enter Try.func37, Try.ntmps37
  go_upto_region 4 with fail
  rw [← HVE.out]
  obtain ⟨X1, hX1⟩ : ∃ X, X = X0.alloc (.cells #[.slice none 0 0, .int .i64 V] 60) := ⟨_, rfl⟩
  have hb : Below X0.heap.size X0 X1 := by rw [hX1]; exact (Below.refl _ _).alloc (Nat.le_refl _) _
  have HR1 : Hid (Rs w X1 (.slice none 0 0) [] V) := by
    refine ⟨HB0.out.trans (hb.mono HB0.out.size), HL0.out.below hb, ?_, ⟨rfl, .inl ⟨rfl, rfl⟩⟩⟩
    rw [hX1, ← HSZ0.out]
    exact Lay.made _ _ _ _
  rw [← hX1, HSZ0.out]
  clear hX1 hb HB0 HL0 HSZ0 hE hw1 hw2 hb1
  have hloop : ∀ (cc : Bool), ((S[0].toNat : Int) != 45) = cc → Hid (mL (tl S) = if cc = true then ((tl S).take N).map un else []) := by
    intro cc hcc
    show _ = _
    have h0 : (tl S).getD 0 0 = S[0] := by
      rw [Ss1.tl_get S 0 hN0]
      simp [List.getD, tl_length, hN0]
    unfold mL
    rw [h0, tl_length, HN.out, Nat.add_sub_cancel]
    cases cc
    · have : S[0] = 45 := by
        apply UInt8.toNat_inj.1
        have : (S[0].toNat : Int) = 45 := by simpa using hcc
        show S[0].toNat = 45
        omega
      rw [if_pos this]
      rfl
    · have : S[0] ≠ 45 := fun e => by rw [e] at hcc; exact absurd hcc (by decide)
      rw [if_neg this]
      rfl
  obtain ⟨cc, hcc⟩ : ∃ cc, ((S[0].toNat : Int) != 45) = cc := ⟨_, rfl⟩
  have HML := hloop cc hcc
  clear hloop
  obtain ⟨TK, hTK⟩ : ∃ TK : Nat → List Int, TK = fun k => ((tl S).take k).map un := ⟨_, rfl⟩
  have HTK : Hid (TK = fun k => ((tl S).take k).map un) := hTK
  have HTL : Hid (∀ k, k ≤ S.size → (TK k).length = k) := by intro k hk; rw [hTK]; have := tl_length S; simp; omega
  have HT0 : Hid (TK 0 = []) := by show _ = _; rw [hTK]; rfl
  obtain ⟨Z, hZ⟩ : ∃ Z, Z = if cc = true then N else 0 := ⟨_, rfl⟩
  have HMT : Hid (TK Z = mL (tl S)) := by
    show _ = _
    rw [HML.out, hTK, hZ]
    cases cc <;> rfl
  have HZ : Hid (Z = if cc = true then N else 0) := hZ
  clear hTK HML hZ
  go_wp2
  go_loopw [5] (fun i wr => ∃ (k : Nat) (v : Value), k ≤ Z ∧ i = .int .i64 k ∧ Rs w wr v (TK k) V) (fun i _ => N - (intOf i).toNat)
  case atStart => exact ⟨0, _, Nat.zero_le _, rfl, by rw [HT0.out]; exact HR1.out⟩
  case round =>
    obtain ⟨k, v, hk, rfl, hrs⟩ := hrel
    have HRS : Hid (Rs w wr v (TK k) V) := hrs
    clear hrs
    have hsw : IntKind.i64.wrap ((S.size : Int) - 2) = (S.size : Int) - 2 := by rw [IntKind.wrap_i64]; omega
    by_cases hlt : cc = true ∧ k < N
    · obtain ⟨rfl, hkn⟩ := hlt
      have hlz : (k : Int) < (S.size : Int) - 2 := by have := HN.out; omega
      have hks : k < S.size := by have := HN.out; omega
      have hksz : (k : Int) < (S.size : Int) := by omega
      have hb1 : (S[k].toNat : Int) < 256 := by have := S[k].toNat_lt; omega
      have hw1 : wrap64 (S[k].toNat : Int) = (S[k].toNat : Int) := by unfold wrap64; omega
      have hw2 : wrap64 ((S[k].toNat : Int) - 48) = (S[k].toNat : Int) - 48 := by unfold wrap64; omega
      have hw3 : IntKind.i64.wrap (S[k].toNat : Int) = (S[k].toNat : Int) := by rw [IntKind.wrap_i64]; omega
      have hw4 : IntKind.i64.wrap ((S[k].toNat : Int) - 48) = (S[k].toNat : Int) - 48 := by rw [IntKind.wrap_i64]; omega
      have HNX : Hid (TK (k + 1) = TK k ++ [(S[k].toNat : Int) - 48]) := by
        show _ = _
        rw [HTK.out]
        show ((tl S).take (k + 1)).map un = ((tl S).take k).map un ++ [_]
        rw [List.take_succ_eq_append_getElem (by rw [tl_length]; exact hks), List.map_append]
        rfl
      have hZ : Z = N := by have := HZ.out; simpa using this
      have HZN : Hid (Z = N) := hZ
      clear hZ
      go_upto_region 7 with fail
      obtain ⟨d0, d1, d2, d3⟩ := HRS.out.box
      have hd := HRS.out.box.lt
      have HOA : Hid (∀ o, Ows (wr.alloc o).drew (w.heap.size + 2) v (TK k)) := fun o => HRS.out.own.kept (S := fun _ => False) ((Kept.refl _ _).alloc o).drew (fun _ _ h => h)
      have HBA : Hid (∀ o : Obj, w.heap.size + 2 ≤ (wr.alloc o).drew.heap.size) := fun o => by
        have : (wr.alloc o).drew.heap.size = wr.heap.size + 1 := by simp
        omega
      have HNP : Hid (∀ i, v.ownBlock = some i → w.heap.size + 2 ≤ i) := fun i hi => (HRS.out.own.lt i hi).1
      have HLA : Hid ((TK k).length ≤ 1048576) := by show _ ≤ _; rw [HTL.out k (by omega)]; have := HN.out; omega
      have HSA : Hid (∀ o, Rs w (wr.alloc o).drew v (TK k) V) := fun o => HRS.out.below ((Below.refl _ _).alloc (Nat.le_refl _) _).drew
      go_region_law ((refine step_int _ (by rfl) _ _ (by rfl) (w.heap.size + 2) v (TK k) ((S[k].toNat : Int) - 48) (by rfl) _ (by rfl) (by simp) (HOA.out _) (HBA.out _) HLA.out ?_; intro g9 cp9 w9 hO9 hK9 hg9; have HP9 : Hid (Rs w (w9.setCell ⟨w.heap.size + 1, 0, none⟩ (.slice (some ⟨g9, 0, none⟩) ((TK k).length + 1) cp9)) (.slice (some ⟨g9, 0, none⟩) ((TK k).length + 1) cp9) (TK k ++ [(S[k].toNat : Int) - 48]) V) := (HSA.out _).put hK9 hO9; have hb9 := ((HSA.out _).box.kept hK9 (fun e => by have := HNP.out _ e; omega)); obtain ⟨b0, b1, b2, b3⟩ := hb9; have hb9l := lt_of_cell b0; clear hO9 hK9 hg9))
      all_goals
        go_wp2
        go_roundw
        case rel => exact ⟨k + 1, _, by have := HZN.out; omega, by go_num, by rw [HNX.out]; exact HP9.out⟩
        case measure => simp [intOf]; omega
    · have HE : Hid (TK k = mL (tl S)) := by
        show _ = _
        rw [← HMT.out]
        have : k = Z := by
          have := HZ.out
          cases cc
          · simp at this; omega
          · simp at this hlt; omega
        rw [this]
      have htest : (cc = false ∧ (k : Int) < (S.size : Int) - 2) ∨ ¬ (k : Int) < (S.size : Int) - 2 := by
        have h1 := HN.out
        by_cases h2 : (k : Int) < (S.size : Int) - 2
        · refine .inl ⟨?_, h2⟩
          cases cc
          · rfl
          · exact absurd ⟨rfl, by omega⟩ hlt
        · exact .inr h2
      clear hlt HMT HTK HT0 HZ
      obtain ⟨a4, c4, e4, f4⟩ := HRS.out.own.form
      subst e4
      have HI : Hid (Ints wr a4 (TK k)) := f4.ints
      obtain ⟨d0, d1, d2, d3⟩ := HRS.out.box
      have hd := HRS.out.box.lt
      clear f4
      rw [HE.out] at d0 HI HRS
      rcases htest with ⟨hc0, hlz⟩ | hlz
      · rw [hc0] at hcc
        clear hc0
        go_wp2_with fail
        clear d0 d1 d2 d3 hd
        refine (sPickText _ a4 (mL (tl S)) c4 V HI.out).mono ?_
        rintro e w5 ⟨rfl, hb5⟩
        have HR5 : Hid (Rs w w5 (.slice a4 (mL (tl S)).length c4) (mL (tl S)) V) := HRS.out.below hb5
        clear hb5 HRS HI
        obtain ⟨P, hP⟩ : ∃ P, P = pkT (mL (tl S)) V := ⟨_, rfl⟩
        rw [← hP]
        have HP : Hid (P = pkT (mL (tl S)) V) := hP
        clear hP
        obtain ⟨r0, r1, r2, r3⟩ := HR5.out.res
        have hr := HR5.out.res.lt
        by_cases hq : tl P = tl S
        · have hqb : (P.toList == S.toList) = true := Ss1.eqb_true hq
          have HO : Hid (okM (tl S) = true) := by
            show _ = _
            unfold okM
            have hsz := HN.out
            refine decide_eq_true ⟨by rw [tl_length]; omega, ?_⟩
            rw [← HV.out, ← HP.out]
            have h2 := congrArg bs hq
            rwa [Ss1.bs_tl] at h2
          clear hq
          obtain ⟨d0, d1, d2, d3⟩ := HR5.out.box
          have hd := HR5.out.box.lt
          go_wp2
          clear r0 r1 r2 r3 hr d0 d1 d2 d3 hd
          have L := HR5.out.res.put (.slice a4 (mL (tl S)).length c4) (.int .i64 V)
          have K : Kept (fun b => b = w.heap.size) w5 ((w5.setCell ⟨w.heap.size, 0, none⟩ (.slice a4 (mL (tl S)).length c4)).setCell ⟨w.heap.size, 1, none⟩ (.int .i64 V)) := ((Kept.refl (fun b => b = w.heap.size) w5).setCell (p := ⟨w.heap.size, 0, none⟩) rfl _).setCell (p := ⟨w.heap.size, 1, none⟩) rfl _
          obtain ⟨d0, d1, _, _⟩ := L
          obtain ⟨_, hin⟩ := ows_in (B' := w.heap.size) HR5.out.own (by omega) K (fun b hb => by omega)
          refine bodyPost_ret (v := .tuple #[pv a4 (mL (tl S)).length c4 V, .bool true]) (by simp [results, Try.results37, go_sem, d0, d1]) rfl ?_
          unfold RdM
          rw [HO.out, if_pos rfl, ← HV.out]
          exact ⟨a4, c4, rfl, hin, HR5.out.bel.trans (K.below (fun b hb => by omega) HR5.out.bel.size)⟩
        · have hqb : (P.toList == S.toList) = false := Ss1.eqb_false hq
          have HO : Hid (okM (tl S) = false) := by
            show _ = _
            unfold okM
            refine decide_eq_false (fun h => hq ?_)
            have h2 := h.2
            rw [← HV.out, ← HP.out] at h2
            rw [h2, Ss1.tl_bs]
          clear hq
          go_wp2
          clear r0 r1 r2 r3 hr
          have L := HR5.out.res.put (.slice none 0 0) (.int .i64 0)
          have K : Kept (fun b => b = w.heap.size) w5 ((w5.setCell ⟨w.heap.size, 0, none⟩ (.slice none 0 0)).setCell ⟨w.heap.size, 1, none⟩ (.int .i64 0)) := ((Kept.refl (fun b => b = w.heap.size) w5).setCell (p := ⟨w.heap.size, 0, none⟩) rfl _).setCell (p := ⟨w.heap.size, 1, none⟩) rfl _
          obtain ⟨d0, d1, _, _⟩ := L
          exact bodyPost_ret (v := .tuple #[pv none 0 0 0, .bool false]) (by simp [results, Try.results37, go_sem, d0, d1]) rfl (HFIN.out _ (HR5.out.bel.trans (K.below (fun b hb => by omega) HR5.out.bel.size)) HO.out)
      · clear hcc
        go_wp2_with fail
        clear d0 d1 d2 d3 hd
        refine (sPickText _ a4 (mL (tl S)) c4 V HI.out).mono ?_
        rintro e w5 ⟨rfl, hb5⟩
        have HR5 : Hid (Rs w w5 (.slice a4 (mL (tl S)).length c4) (mL (tl S)) V) := HRS.out.below hb5
        clear hb5 HRS HI
        obtain ⟨P, hP⟩ : ∃ P, P = pkT (mL (tl S)) V := ⟨_, rfl⟩
        rw [← hP]
        have HP : Hid (P = pkT (mL (tl S)) V) := hP
        clear hP
        obtain ⟨r0, r1, r2, r3⟩ := HR5.out.res
        have hr := HR5.out.res.lt
        by_cases hq : tl P = tl S
        · have hqb : (P.toList == S.toList) = true := Ss1.eqb_true hq
          have HO : Hid (okM (tl S) = true) := by
            show _ = _
            unfold okM
            have hsz := HN.out
            refine decide_eq_true ⟨by rw [tl_length]; omega, ?_⟩
            rw [← HV.out, ← HP.out]
            have h2 := congrArg bs hq
            rwa [Ss1.bs_tl] at h2
          clear hq
          obtain ⟨d0, d1, d2, d3⟩ := HR5.out.box
          have hd := HR5.out.box.lt
          go_wp2
          clear r0 r1 r2 r3 hr d0 d1 d2 d3 hd
          have L := HR5.out.res.put (.slice a4 (mL (tl S)).length c4) (.int .i64 V)
          have K : Kept (fun b => b = w.heap.size) w5 ((w5.setCell ⟨w.heap.size, 0, none⟩ (.slice a4 (mL (tl S)).length c4)).setCell ⟨w.heap.size, 1, none⟩ (.int .i64 V)) := ((Kept.refl (fun b => b = w.heap.size) w5).setCell (p := ⟨w.heap.size, 0, none⟩) rfl _).setCell (p := ⟨w.heap.size, 1, none⟩) rfl _
          obtain ⟨d0, d1, _, _⟩ := L
          obtain ⟨_, hin⟩ := ows_in (B' := w.heap.size) HR5.out.own (by omega) K (fun b hb => by omega)
          refine bodyPost_ret (v := .tuple #[pv a4 (mL (tl S)).length c4 V, .bool true]) (by simp [results, Try.results37, go_sem, d0, d1]) rfl ?_
          unfold RdM
          rw [HO.out, if_pos rfl, ← HV.out]
          exact ⟨a4, c4, rfl, hin, HR5.out.bel.trans (K.below (fun b hb => by omega) HR5.out.bel.size)⟩
        · have hqb : (P.toList == S.toList) = false := Ss1.eqb_false hq
          have HO : Hid (okM (tl S) = false) := by
            show _ = _
            unfold okM
            refine decide_eq_false (fun h => hq ?_)
            have h2 := h.2
            rw [← HV.out, ← HP.out] at h2
            rw [h2, Ss1.tl_bs]
          clear hq
          go_wp2
          clear r0 r1 r2 r3 hr
          have L := HR5.out.res.put (.slice none 0 0) (.int .i64 0)
          have K : Kept (fun b => b = w.heap.size) w5 ((w5.setCell ⟨w.heap.size, 0, none⟩ (.slice none 0 0)).setCell ⟨w.heap.size, 1, none⟩ (.int .i64 0)) := ((Kept.refl (fun b => b = w.heap.size) w5).setCell (p := ⟨w.heap.size, 0, none⟩) rfl _).setCell (p := ⟨w.heap.size, 1, none⟩) rfl _
          obtain ⟨d0, d1, _, _⟩ := L
          exact bodyPost_ret (v := .tuple #[pv none 0 0 0, .bool false]) (by simp [results, Try.results37, go_sem, d0, d1]) rfl (HFIN.out _ (HR5.out.bel.trans (K.below (fun b hb => by omega) HR5.out.bel.size)) HO.out)
end Go.Proofs.Ytlpbfbghgacjiaa.Wp6

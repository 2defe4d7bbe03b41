/- The program's worth: what a wire is at 64 choices at once. -/
import Derived.Deep.RegionHeld3
import Derived.Deep.RegionLaw
import Derived.Deep.CutBlock
import Derived.Deep.CutRange
import Derived.Test.YtnpfegfjejfaaaaPkHj
import Derived.Test.YtnpfegfjejfaaaaWv0
import Derived.Test.YtnpfegfjejfaaaaWv1
namespace Go.Proofs.Ytnpfegfjejfaaaa.Gp7
open Go.RowKit
open Nd0 Qb0 Qb2 Gr0 Gr1 Mq0 Nt0 Gp1 Gp3 Ta0 Wv0 Wv1
open Ta1 (band62)
set_option linter.unusedVariables false

theorem and1 {w : Int} (h0 : 0 ≤ w) (h1 : w ≤ 1000000) : bits .and .i64 w 1 = w % 2 := by
  have h := band62 (m := w.toNat) (n := 1) (by omega) (by decide)
  rw [show ((w.toNat : Nat) : Int) = w by omega, show ((1 : Nat) : Int) = 1 by rfl, Nat.and_one_is_mod] at h
  rw [h]; omega
set_option maxHeartbeats 2000000 in
/-- The closure: a wire's word, the nodes' words known. -/
theorem iAt (W : World) (B pb g cap : Nat) (U : Nat → Nat → Bool) (n : Nat) (l : List An) (m : Nat) (hc : W.cell? ⟨pb, 0, none⟩ = some (.slice (some ⟨g, 0, none⟩) (vW U n l m).length cap)) (hO : OwU W B (.slice (some ⟨g, 0, none⟩) (vW U n l m).length cap) (vW U n l m)) (w : Int) (h0 : 0 ≤ w) (h1 : w / 2 < n + 1 + m) (hm : (n : Int) + 1 + m ≤ 10000) :
    Calls Try.prog 94 #[.int .i64 w, .pointer (some ⟨pb, 0, none⟩)] W fun e w' => e = .returned (.int .u64 (wW U n l m w : Int)) ∧ ∃ k, w' = W.drewN k := by
  have hlen := vW_len U n l m
  have hj : (w / 2).toNat < (vW U n l m).length := by rw [hlen]; omega
  have hcell := hO.cell _ hj
  rw [vW_get] at hcell
  have hlt := nW_lt U n l m (w / 2).toNat
  have e2 : w / 2 = (((w / 2).toNat : Nat) : Int) := by omega
  have HW : Hid (w % 2 = 0 ∧ wW U n l m w = nW U n l m (w / 2).toNat ∨ w % 2 = 1 ∧ wW U n l m w = nW U n l m (w / 2).toNat ^^^ 18446744073709551615) := by
    rcases (by omega : w % 2 = 0 ∨ w % 2 = 1) with e | e
    · exact .inl ⟨e, wW_even e⟩
    · exact .inr ⟨e, wW_odd e⟩
  have ha := and1 h0 (by omega : w ≤ 1000000)
  generalize hX : nW U n l m (w / 2).toNat = X at *
  generalize hJ : (w / 2).toNat = J at *
  generalize hL : (vW U n l m).length = L at *
  have hJL : (J : Int) < (L : Int) := by omega
  clear hX hJ hL hO hm h1
  have HE2 : Hid (w / 2 = (J : Int)) := e2
  have HNO : Hid (∀ W, Calls Try.prog 60 #[.int .i64 w] W fun e w' => e = .returned (.int .i64 (J : Int)) ∧ w' = W) := fun W => by rw [← HE2.out]; exact iNodeOf w W
  clear e2 hlen
  rcases HW.out with ⟨e, hw⟩ | ⟨e, hw⟩
  · have HV : Hid (wW U n l m w = X) := hw
    rw [e] at ha
    have hx : bits .xor .u64 (X : Int) 0 = (X : Int) := by have := bxoru hlt (y := 0) (by decide); simpa using this
    clear hw e
    go_enter Try.func94, Try.ntmps94
    go_wp2
    go_quiet ((go_at_call 60; exact Calls.quiet_of_same (HNO.out _)))
    go_wp2
    go_ret
    exact ⟨by rw [HV.out]; rfl, _, rfl⟩
  · have HV : Hid (wW U n l m w = X ^^^ 18446744073709551615) := hw
    rw [e] at ha
    have hneg : IntKind.u64.wrap (-1) = 18446744073709551615 := by decide
    have hx : bits .xor .u64 (X : Int) 18446744073709551615 = ((X ^^^ 18446744073709551615 : Nat) : Int) := bxoru hlt (y := 18446744073709551615) (by decide)
    clear hw e
    go_enter Try.func94, Try.ntmps94
    go_wp2
    go_quiet ((go_at_call 60; exact Calls.quiet_of_same (HNO.out _)))
    go_wp2
    go_ret
    exact ⟨by rw [HV.out]; rfl, _, rfl⟩

/-- The box of the values and the values themselves. -/
structure Vb (Z W : World) (pb g cap : Nat) (L : List Nat) : Prop where
  c : W.cell? ⟨pb, 0, none⟩ = some (.slice (some ⟨g, 0, none⟩) L.length cap)
  z : W.frozen? ⟨pb, 0, none⟩ = false
  o : OwU W Z.heap.size (.slice (some ⟨g, 0, none⟩) L.length cap) L
  ne : g ≠ pb
  lo : Z.heap.size ≤ pb
  b : Below Z.heap.size Z W
theorem Vb.lt {Z W : World} {pb g cap : Nat} {L : List Nat} (h : Vb Z W pb g cap L) : pb < W.heap.size := lt_of_cell (p := ⟨pb, 0, none⟩) h.c
theorem Vb.same {Z W W' : World} {pb g cap : Nat} {L : List Nat} (h : Vb Z W pb g cap L) (k : Kept (fun _ => False) W W') : Vb Z W' pb g cap L :=
  ⟨by rw [k.cell (p := ⟨pb, 0, none⟩) h.lt (fun e => e)]; exact h.c, by rw [k.frozen (p := ⟨pb, 0, none⟩) h.lt (fun e => e)]; exact h.z, h.o.kept k (fun _ _ e => e), h.ne, h.lo, h.b.trans (k.below (fun _ e => e.elim) h.b.size)⟩
/-- The values have grown; the box is filled anew. -/
theorem Vb.fill {Z W w5 : World} {pb g cap g2 cp : Nat} {L L2 : List Nat} (h : Vb Z W pb g cap L) (hO : OwU w5 Z.heap.size (.slice (some ⟨g2, 0, none⟩) L2.length cp) L2) (hK : Kept (fun k => k = g) W w5) (hg : g2 = g ∨ W.heap.size ≤ g2) :
    Vb Z (w5.setCell ⟨pb, 0, none⟩ (.slice (some ⟨g2, 0, none⟩) L2.length cp)) pb g2 cp L2 := by
  have hl := h.lt
  have hne := h.ne
  have hgl := (h.o.lt g rfl).1
  have hgp : g2 ≠ pb := by rcases hg with e | e <;> omega
  have K2 : Kept (fun k => k = pb) w5 (w5.setCell ⟨pb, 0, none⟩ (.slice (some ⟨g2, 0, none⟩) L2.length cp)) := Kept.setCell (S := fun k => k = pb) (Kept.refl _ _) (p := ⟨pb, 0, none⟩) rfl _
  have c5 : w5.cell? ⟨pb, 0, none⟩ = some (.slice (some ⟨g, 0, none⟩) L.length cap) := by rw [hK.cell (p := ⟨pb, 0, none⟩) hl (fun e => hne e.symm)]; exact h.c
  refine ⟨set_same c5, by rw [World.frozen?_setCell, hK.frozen (p := ⟨pb, 0, none⟩) hl (fun e => hne e.symm)]; exact h.z, hO.kept K2 (fun k e x => ?_), hgp, h.lo, ?_⟩
  · have e' : g2 = k := by simpa [Value.ownBlock] using e
    omega
  · have hs := h.b.size
    have hs2 := hK.size
    have hlo := h.lo
    exact h.b.trans ((hK.below (fun k e => by omega) hs).trans (K2.below (fun k e => by omega) (by omega)))

set_option maxRecDepth 100000 in
set_option maxHeartbeats 8000000 in
theorem iWorth {w : World} {F : Nat → Prop} {p n : Nat} {l : List An} {v : Value} {bm : Nat} (h : Nt w F p (n : Int) l v bm) (hn : n ≤ 12) (hl : l.length ≤ 3000) (hok : okL (n : Int) l = true) (U : Nat → Nat → Bool) (gx ox cx : Nat) (hU : Us w gx ox ((List.range n).map fun i => wdN (U i) 64)) (hgx : gx < w.heap.size) (x : Int) (hx : wireB (n : Int) l x = true) :
    Calls Try.prog 56 #[.pointer (some ⟨p, 0, none⟩), .slice (some ⟨gx, ox, none⟩) n cx, .int .i64 x] w fun e w' => e = .returned (.int .u64 (wW U n l l.length x : Int)) ∧ Below w.heap.size w w' := by
  have H : Hid (Nt w F p (n : Int) l v bm) := h
  have HU : Hid (Us w gx ox ((List.range n).map fun i => wdN (U i) 64)) := hU
  have rx := of_decide_eq_true hx
  have HOK : Hid (okL (n : Int) l = true) := hok
  have hmf : ∀ (fn : Fn) (first cap : Array Value) (w : World), (Instr.makeFunc fn first cap).run Try.prog w = .ok (.func fn first cap) w := fun _ _ _ _ => rfl
  clear h hU hx hok
  go_enter Try.func56, Try.ntmps56
  go_wp2_with fail
  refine (iNodes H.out (by omega) (by omega) hl).mono ?_
  rintro e w2 ⟨rfl, m, rfl⟩
  obtain ⟨Z, hZ⟩ : ∃ Z, Z = w.drewN m := ⟨_, rfl⟩
  have HBZ : Hid (Below w.heap.size w Z) := by rw [hZ]; exact ⟨rfl, rfl, rfl, Nat.le_refl _, fun _ _ => rfl⟩
  rw [← hZ]
  clear hZ
  have HNZ : Hid (Nt Z F p (n : Int) l v bm) := H.out.below HBZ.out
  have HUZ : Hid (Us Z gx ox ((List.range n).map fun i => wdN (U i) 64)) := HU.out.kept (S := fun _ => False) (Kept.ofBelow HBZ.out) (fun e => e)
  have hgz : gx < Z.heap.size := Nat.lt_of_lt_of_le hgx HBZ.out.size
  have hmk := makeOne (n + 1 + l.length) (by omega) (by omega)
  have ecast : ((n + 1 + l.length : Nat) : Int) = (n : Int) + 1 + (l.length : Int) := by push_cast; rfl
  rw [ecast] at hmk
  clear ecast
  go_upto_region 2 with fail
  clear hmk
  obtain ⟨W1, hW1⟩ : ∃ W1, W1 = Z.alloc (.cells (madeCells #[.int .u64 0] (n + 1 + l.length)) 78) := ⟨_, rfl⟩
  have s1 : W1.heap.size = Z.heap.size + 1 := by rw [hW1]; simp
  obtain ⟨W2, hW2⟩ : ∃ W2, W2 = W1.alloc (.cells #[.slice (some ⟨Z.heap.size, 0, none⟩) 1 (n + 1 + l.length)] 74) := ⟨_, rfl⟩
  obtain ⟨g, hg⟩ : ∃ g, g = Z.heap.size := ⟨_, rfl⟩
  obtain ⟨pb, hpb⟩ : ∃ pb, pb = Z.heap.size + 1 := ⟨_, rfl⟩
  have HV2 : Hid (Vb Z W2 pb g (n + 1 + l.length) [0]) := by
    have B1 : Below Z.heap.size Z W1 := by rw [hW1]; exact (Below.refl _ _).alloc (Nat.le_refl _) _
    have o1 : OwU W1 Z.heap.size (.slice (some ⟨Z.heap.size, 0, none⟩) 1 (n + 1 + l.length)) [0] := by rw [hW1]; exact madeOne Z _ _ (by omega) (by omega) (Nat.le_refl _)
    rw [hpb, hg, ← s1]
    refine ⟨by rw [hW2, World.cell?_alloc_new]; rfl, by rw [hW2]; simp, by rw [hW2]; exact o1.kept (S := fun _ => False) ((Kept.refl _ _).alloc _) (fun _ _ e => e), by omega, by omega, by rw [hW2]; exact B1.alloc B1.size _⟩
  rw [← hW1, ← hW2, ← hpb, ← hg]
  have HGP : Hid (g = Z.heap.size ∧ pb = Z.heap.size + 1) := ⟨hg, hpb⟩
  clear hW1 hW2 s1 hg hpb
  have c0 := HV2.out.c
  have z0 := HV2.out.z
  have HU2 : Hid (Us W2 gx ox ((List.range n).map fun i => wdN (U i) 64)) := HUZ.out.kept (S := fun _ => False) (Kept.ofBelow HV2.out.b) (fun e => e)
  have HLY : Hid (((List.range n).map fun i => wdN (U i) 64).length = n) := by show _ = _; simp
  have HYS : Hid ([0] ++ ((List.range n).map fun i => wdN (U i) 64) = vW U n l 0) := by show _ = _; rw [vW_zero]; rfl
  generalize ((List.range n).map fun i => wdN (U i) 64) = ys at *
  have hO2 : OwU W2 Z.heap.size (.slice (some ⟨g, 0, none⟩) 1 (n + 1 + l.length)) [0] := HV2.out.o
  have hB2 : Z.heap.size ≤ W2.heap.size := HV2.out.b.size
  obtain ⟨L0, hL0⟩ : ∃ L0, L0 = vW U n l 0 := ⟨_, rfl⟩
  have HL0 : Hid (L0 = vW U n l 0) := hL0
  have HLL : Hid ([0] ++ ys = L0) := by show _ = _; rw [HYS.out, hL0]
  have hlen1 : [0].length + ys.length ≤ 1048577 := by rw [HLY.out]; simp; omega
  have hpg : pb ≠ g := fun e => HV2.out.ne e.symm
  have HPG : Hid (pb ≠ g) := hpg
  have hpl2 : pb < W2.heap.size := HV2.out.lt
  clear hL0 hpg
  go_upto_region 3 with (at_builtin; refine app_us _ (by rfl) _ _ (by rfl) Z.heap.size g (n + 1 + l.length) gx ox cx [0] ys (by rfl) (by rw [HLY.out]; rfl) hO2 HU2.out hB2 hlen1 L0 HLL.out ?_; intro g3 cp3 w3 ho3 hk3 hg3; have k0 : w3.cell? ⟨pb, 0, none⟩ = some (.slice (some ⟨g, 0, none⟩) 1 (n + 1 + l.length)) := (by rw [hk3.cell (p := ⟨pb, 0, none⟩) hpl2 HPG.out]; exact c0); have kz : w3.frozen? ⟨pb, 0, none⟩ = false := (by rw [hk3.frozen (p := ⟨pb, 0, none⟩) hpl2 HPG.out]; exact z0); have HV3 : Hid (Vb Z (w3.setCell ⟨pb, 0, none⟩ (.slice (some ⟨g3, 0, none⟩) L0.length cp3)) pb g3 cp3 L0) := HV2.out.fill ho3 hk3 hg3; clear ho3 hk3 hg3)
  clear c0 z0 k0 kz hO2 hB2 hlen1 hpl2
  generalize w3.setCell ⟨pb, 0, none⟩ (.slice (some ⟨g3, 0, none⟩) L0.length cp3) = W3 at *
  obtain ⟨av, cv, rfl, _, _⟩ := HNZ.out.slice
  have d1 : W3.cell? ⟨p, 1, none⟩ = some (.slice av l.length cv) := by rw [HV3.out.b.cell HNZ.out.lt]; exact HNZ.out.c1
  have HAZ : Hid (Ans Z av l) := by
    obtain ⟨a', c', e', hA, _⟩ := HNZ.out.slice
    cases e'
    exact hA
  go_wp2
  clear d1 hmf
  go_loopw [23] (fun i wr => ∃ (k : Nat) (L : List Nat) (g cap : Nat), k ≤ l.length ∧ i = .int .i64 k ∧ L = vW U n l k ∧ Vb Z wr pb g cap L) (fun i _ => l.length - (intOf i).toNat)
  case atStart => exact ⟨0, L0, g3, cp3, Nat.zero_le _, rfl, HL0.out, HV3.out⟩
  case round =>
    obtain ⟨k, L, g4, cap4, hk, rfl, hL, hV⟩ := hrel
    have HL : Hid (L = vW U n l k) := hL
    have HV : Hid (Vb Z wr pb g4 cap4 L) := hV
    clear hL hV
    by_cases hlt : k < l.length
    · have hlz : (k : Int) < (l.length : Int) := by omega
      rcases (HAZ.out.below HV.out.b).2 with e | ⟨xb, xo, rfl, hc⟩
      · omega
      obtain ⟨p0, p1⟩ := hc k hlt
      rw [nth_get hlt] at p0 p1
      clear hc
      obtain ⟨f1, f2, f3⟩ := ok_facts HOK.out hlt
      obtain ⟨xx, hxx⟩ : ∃ xx, xx = nth l k := ⟨_, rfl⟩
      have HXX : Hid (xx = nth l k) := hxx
      rw [← hxx] at p0 p1 f1 f2 f3
      clear hxx
      obtain ⟨xa, xv⟩ := xx
      simp only at p0 p1 f1 f2 f3
      go_upto_region 7 with fail
      clear p0 p1
      obtain ⟨W5, hW5⟩ : ∃ W5, W5 = wr.alloc (.cells #[.int .i64 xa, .int .i64 xv] 89) := ⟨_, rfl⟩
      have HV5 : Hid (Vb Z W5 pb g4 cap4 L) := by rw [hW5]; exact HV.out.same ((Kept.refl _ _).alloc _)
      obtain ⟨qa, hqa⟩ : ∃ qa, qa = wr.heap.size := ⟨_, rfl⟩
      have q0 : W5.cell? ⟨qa, 0, none⟩ = some (.int .i64 xa) := by rw [hW5, hqa, World.cell?_alloc_new]; rfl
      have q1 : W5.cell? ⟨qa, 1, none⟩ = some (.int .i64 xv) := by rw [hW5, hqa, World.cell?_alloc_new]; rfl
      have hql : qa < W5.heap.size := by rw [hW5, hqa]; simp
      have HNQ : Hid (¬ qa = g4 ∧ ¬ qa = pb) := ⟨fun e => by have := (HV.out.o.lt g4 rfl).2; omega, fun e => by have := HV.out.lt; omega⟩
      rw [← hW5, ← hqa]
      clear hW5 hqa
      obtain ⟨ww, hww⟩ : ∃ ww : Int → Nat, ww = wW U n l k := ⟨_, rfl⟩
      have HWL : Hid (∀ x, ww x < 18446744073709551616) := fun x => by rw [hww]; exact wW_lt U n l k x
      have HCL : Hid (∀ (W' : World) (x : Int), (x = xa ∨ x = xv) → Kept (fun _ => False) W5 W' → Calls Try.prog 94 #[.int .i64 x, .pointer (some ⟨pb, 0, none⟩)] W' fun e w' => e = .returned (.int .u64 (ww x : Int)) ∧ ∃ k, w' = W'.drewN k) := fun W' x hx hK => by
        have hV' := HV5.out.same hK
        rw [hww]
        have hc := hV'.c
        have ho := hV'.o
        rw [HL.out] at hc ho
        exact iAt W' _ pb g4 cap4 U n l k hc ho x (by rcases hx with e | e <;> omega) (by rcases hx with e | e <;> omega) (by omega)
      obtain ⟨L6, hL6⟩ : ∃ L6, L6 = vW U n l (k + 1) := ⟨_, rfl⟩
      have HL6 : Hid (L6 = vW U n l (k + 1)) := hL6
      have HLA : Hid (L ++ [ww xa &&& ww xv] = L6) := by
        show _ = _
        rw [hL6, vW_next, ← HXX.out, hww, HL.out]
      clear hww hL6
      have hand : bits .and .u64 (ww xa : Int) (ww xv : Int) = ((ww xa &&& ww xv : Nat) : Int) := bandu (HWL.out _) (HWL.out _)
      generalize ww xa &&& ww xv = yy at *
      have hpl := HV5.out.lt
      have HLN : Hid (L.length ≤ 1048576) := by show _ ≤ _; rw [HL.out, vW_len]; omega
      have HOV := HV5.out.o
      have HO5 : Hid (OwU W5 Z.heap.size (.slice (some ⟨g4, 0, none⟩) L.length cap4) L) := HOV
      have HB5 : Hid (Z.heap.size ≤ W5.heap.size) := HV5.out.b.size
      have HPN : Hid (pb ≠ g4) := fun e => HV5.out.ne e.symm
      clear HOV
      go_wp2
      have HK0 : Hid (Kept (fun _ => False) W5 W5.drew) := (Kept.refl _ _).drew
      refine wp_region_held_drew (S := fun w' => w'.cell? ⟨qa, 0, none⟩ = some (.int .i64 xa) ∧ w'.cell? ⟨qa, 1, none⟩ = some (.int .i64 xv)) (by kernel_rfl) ⟨by rw [HK0.out.cell (p := ⟨qa, 0, none⟩) hql (fun e => e)]; exact q0, by rw [HK0.out.cell (p := ⟨qa, 1, none⟩) hql (fun e => e)]; exact q1⟩ (fun hHeld => ?_)
      refine wpAnyH_take (i := 1) (v := ?_) rfl (by kernel_rfl) (by kernel_rfl) (by kernel_rfl) (fun _ _ _ h => h) (Or.inl ⟨by rfl, ?_⟩) hHeld ?_
      rotate_left
      · (intro v9 hS9; go_simp; try with_reducible rfl)
      try simp only [Act.put, List.setIfInBounds_toArray, List.set_cons_zero, List.set_cons_succ, List.getElem_toArray, List.getElem_cons_zero, List.getElem_cons_succ]
      refine wpAnyH_take (i := 2) (v := ?_) rfl (by kernel_rfl) (by kernel_rfl) (by kernel_rfl) (fun _ _ _ h => h) (Or.inl ⟨by rfl, ?_⟩) hHeld ?_
      rotate_left
      · (intro v9 hS9; go_simp; try with_reducible rfl)
      try simp only [Act.put, List.setIfInBounds_toArray, List.set_cons_zero, List.set_cons_succ, List.getElem_toArray, List.getElem_cons_zero, List.getElem_cons_succ]
      refine wpAnyH_take (i := 3) (v := ?_) rfl (by kernel_rfl) (by kernel_rfl) (by kernel_rfl) (fun _ _ _ h => h) (Or.inl ⟨by rfl, ?_⟩) hHeld ?_
      rotate_left
      · (intro v9 hS9; obtain ⟨s0, s1⟩ := hS9; go_simp; try with_reducible rfl)
      try simp only [Act.put, List.setIfInBounds_toArray, List.set_cons_zero, List.set_cons_succ, List.getElem_toArray, List.getElem_cons_zero, List.getElem_cons_succ]
      refine wpAnyH_take (i := 5) (v := ?_) rfl (by kernel_rfl) (by kernel_rfl) (by kernel_rfl) (fun _ _ _ h => h) (Or.inl ⟨by rfl, ?_⟩) hHeld ?_
      rotate_left
      · (intro v9 hS9; go_simp; try with_reducible rfl)
      try simp only [Act.put, List.setIfInBounds_toArray, List.set_cons_zero, List.set_cons_succ, List.getElem_toArray, List.getElem_cons_zero, List.getElem_cons_succ]
      refine wpAnyH_take (i := 6) (v := ?_) rfl (by kernel_rfl) (by kernel_rfl) (by kernel_rfl) (fun _ _ _ h => h) (Or.inl ⟨by rfl, ?_⟩) hHeld ?_
      rotate_left
      · (intro v9 hS9; go_simp; try with_reducible rfl)
      try simp only [Act.put, List.setIfInBounds_toArray, List.set_cons_zero, List.set_cons_succ, List.getElem_toArray, List.getElem_cons_zero, List.getElem_cons_succ]
      refine wpAnyH_take (i := 7) (v := ?_) rfl (by kernel_rfl) (by kernel_rfl) (by kernel_rfl) (fun _ _ _ h => h) (Or.inl ⟨by rfl, ?_⟩) hHeld ?_
      rotate_left
      · (intro v9 hS9; obtain ⟨s0, s1⟩ := hS9; go_simp; try with_reducible rfl)
      try simp only [Act.put, List.setIfInBounds_toArray, List.set_cons_zero, List.set_cons_succ, List.getElem_toArray, List.getElem_cons_zero, List.getElem_cons_succ]
      refine wpAnyH_ready (rs := [0, 4]) (by kernel_rfl) (by simp) ?_
      refine (AllReadyH.cons rfl (fun K hK => ?_) (AllReadyH.cons rfl (fun K hK => ?_) AllReadyH.nil))
      · have vc : (W5.drew).cell? ⟨pb, 0, none⟩ = some (.slice (some ⟨g4, 0, none⟩) L.length cap4) := (HV5.out.same HK0.out).c
        go_simp
        refine hK.out _ _ hHeld (fun hNext => ?_)
        clear vc
        clear hK K hHeld
        have hHeld := hNext
        clear hNext
        try simp only [Act.put, List.setIfInBounds_toArray, List.set_cons_zero, List.set_cons_succ, List.getElem_toArray, List.getElem_cons_zero, List.getElem_cons_succ]
        refine wpAnyH_ready (rs := [4]) (by kernel_rfl) (by simp) ?_
        refine (AllReadyH.cons rfl (fun K hK => ?_) AllReadyH.nil)
        · go_simp
          refine (HCL.out _ xa (by first | exact Or.inl rfl | exact Or.inr rfl) HK0.out).mono ?_
          rintro e xw1 ⟨rfl, hxw⟩
          have HKx1 : Hid (Kept (fun _ => False) W5 xw1) := by obtain ⟨kk, rfl⟩ := hxw; exact HK0.out.drewN kk
          clear hxw
          refine hK.out _ _ ⟨by rw [HKx1.out.cell (p := ⟨qa, 0, none⟩) hql (fun e => e)]; exact q0, by rw [HKx1.out.cell (p := ⟨qa, 1, none⟩) hql (fun e => e)]; exact q1⟩ (fun hNext => ?_)
          clear hK K hHeld
          have hHeld := hNext
          clear hNext
          try simp only [Act.put, List.setIfInBounds_toArray, List.set_cons_zero, List.set_cons_succ, List.getElem_toArray, List.getElem_cons_zero, List.getElem_cons_succ]
          refine wpAnyH_ready (rs := [8]) (by kernel_rfl) (by simp) ?_
          refine (AllReadyH.cons rfl (fun K hK => ?_) AllReadyH.nil)
          · go_simp
            refine (HCL.out _ xv (by first | exact Or.inl rfl | exact Or.inr rfl) HKx1.out).mono ?_
            rintro e xw2 ⟨rfl, hxw⟩
            have HKx2 : Hid (Kept (fun _ => False) W5 xw2) := by obtain ⟨kk, rfl⟩ := hxw; exact HKx1.out.drewN kk
            clear hxw
            refine hK.out _ _ ⟨by rw [HKx2.out.cell (p := ⟨qa, 0, none⟩) hql (fun e => e)]; exact q0, by rw [HKx2.out.cell (p := ⟨qa, 1, none⟩) hql (fun e => e)]; exact q1⟩ (fun hNext => ?_)
            clear hK K hHeld
            have hHeld := hNext
            clear hNext
            try simp only [Act.put, List.setIfInBounds_toArray, List.set_cons_zero, List.set_cons_succ, List.getElem_toArray, List.getElem_cons_zero, List.getElem_cons_succ]
            refine wpAnyH_take (i := 9) (v := ?_) rfl (by kernel_rfl) (by kernel_rfl) (by kernel_rfl) (fun _ _ _ h => h) (Or.inl ⟨by rfl, ?_⟩) hHeld ?_
            rotate_left
            · (intro v9 hS9; go_simp; try with_reducible rfl)
            try simp only [Act.put, List.setIfInBounds_toArray, List.set_cons_zero, List.set_cons_succ, List.getElem_toArray, List.getElem_cons_zero, List.getElem_cons_succ]
            refine wpAnyH_ready (rs := [10]) (by kernel_rfl) (by simp) ?_
            refine (AllReadyH.cons rfl (fun K hK => ?_) AllReadyH.nil)
            · go_simp
              have HKx3 : Hid (Kept (fun _ => False) W5 (xw2.alloc (.cells #[.int .u64 (yy : Int)] 78))) := HKx2.out.alloc _
              refine hK.out _ _ ⟨by rw [HKx3.out.cell (p := ⟨qa, 0, none⟩) hql (fun e => e)]; exact q0, by rw [HKx3.out.cell (p := ⟨qa, 1, none⟩) hql (fun e => e)]; exact q1⟩ (fun hNext => ?_)
              clear hK K hHeld
              have hHeld := hNext
              clear hNext
              try simp only [Act.put, List.setIfInBounds_toArray, List.set_cons_zero, List.set_cons_succ, List.getElem_toArray, List.getElem_cons_zero, List.getElem_cons_succ]
              refine wpAnyH_ready (rs := [11]) (by kernel_rfl) (by simp) ?_
              refine (AllReadyH.cons rfl (fun K hK => ?_) AllReadyH.nil)
              · refine step_u _ (by rfl) _ _ (by rfl) Z.heap.size (.slice (some ⟨g4, 0, none⟩) L.length cap4) L yy (by rfl) xw2.heap.size (by rfl) (by simp) (HO5.out.kept HKx3.out (fun _ _ e => e)) (Nat.le_trans HB5.out HKx3.out.size) HLN.out L6 HLA.out ?_
                intro g6 cp6 w6 ho6 hk6 hg6
                have hk7 : Kept (fun k => k = g4) (xw2.alloc (.cells #[.int .u64 (yy : Int)] 78)) w6 := hk6.mono (fun k e => (by simpa [Value.ownBlock] using e : g4 = k).symm)
                have hg7 : g6 = g4 ∨ (xw2.alloc (.cells #[.int .u64 (yy : Int)] 78)).heap.size ≤ g6 := by rcases hg6 with e | e; exact .inl (by simpa [Value.ownBlock] using e.symm); exact .inr e
                have hvb := HV5.out.same HKx3.out
                have HV7 : Hid (Vb Z (w6.setCell ⟨pb, 0, none⟩ (.slice (some ⟨g6, 0, none⟩) L6.length cp6)) pb g6 cp6 L6) := hvb.fill ho6 hk7 hg7
                have k0 : w6.cell? ⟨pb, 0, none⟩ = some (.slice (some ⟨g4, 0, none⟩) L.length cap4) := by rw [hk7.cell (p := ⟨pb, 0, none⟩) hvb.lt HPN.out]; exact hvb.c
                have kz : w6.frozen? ⟨pb, 0, none⟩ = false := by rw [hk7.frozen (p := ⟨pb, 0, none⟩) hvb.lt HPN.out]; exact hvb.z
                have hqw : qa < (xw2.alloc (.cells #[.int .u64 (yy : Int)] 78)).heap.size := Nat.lt_of_lt_of_le hql HKx3.out.size
                have a0 : w6.cell? ⟨qa, 0, none⟩ = some (.int .i64 xa) := by rw [hk7.cell (p := ⟨qa, 0, none⟩) hqw HNQ.out.1, HKx3.out.cell (p := ⟨qa, 0, none⟩) hql (fun e => e)]; exact q0
                have a1 : w6.cell? ⟨qa, 1, none⟩ = some (.int .i64 xv) := by rw [hk7.cell (p := ⟨qa, 1, none⟩) hqw HNQ.out.1, HKx3.out.cell (p := ⟨qa, 1, none⟩) hql (fun e => e)]; exact q1
                have hq6 : qa < w6.heap.size := Nat.lt_of_lt_of_le hqw hk7.size
                refine hK.out _ _ ⟨a0, a1⟩ (fun hNext => ?_)
                clear ho6 hk6 hg6 hk7 hg7 hvb hqw
                clear hK K hHeld
                have hHeld := hNext
                clear hNext
                try simp only [Act.put, List.setIfInBounds_toArray, List.set_cons_zero, List.set_cons_succ, List.getElem_toArray, List.getElem_cons_zero, List.getElem_cons_succ]
                refine wpAnyH_ready (rs := [12]) (by kernel_rfl) (by simp) ?_
                refine (AllReadyH.cons rfl (fun K hK => ?_) AllReadyH.nil)
                go_simp
                have K8 : Kept (fun k => k = pb) w6 (w6.setCell ⟨pb, 0, none⟩ (.slice (some ⟨g6, 0, none⟩) L6.length cp6)) := Kept.setCell (S := fun k => k = pb) (Kept.refl _ _) (p := ⟨pb, 0, none⟩) rfl _
                refine hK.out _ _ ⟨by rw [K8.cell (p := ⟨qa, 0, none⟩) hq6 HNQ.out.2]; exact a0, by rw [K8.cell (p := ⟨qa, 1, none⟩) hq6 HNQ.out.2]; exact a1⟩ (fun hNext => ?_)
                clear hK K hHeld K8 a0 a1 k0 kz hq6
                refine wpAnyH_done (by kernel_rfl) ?_ _
                clear hNext
                generalize w6.setCell ⟨pb, 0, none⟩ (.slice (some ⟨g6, 0, none⟩) L6.length cp6) = W7 at *
                go_wp2
                go_roundw
                case rel => exact ⟨k + 1, L6, g6, cp6, by omega, by go_num, HL6.out, HV7.out⟩
                case measure => simp [intOf]; omega
      · go_simp
        refine (HCL.out _ xa (by first | exact Or.inl rfl | exact Or.inr rfl) HK0.out).mono ?_
        rintro e xw4 ⟨rfl, hxw⟩
        have HKx4 : Hid (Kept (fun _ => False) W5 xw4) := by obtain ⟨kk, rfl⟩ := hxw; exact HK0.out.drewN kk
        clear hxw
        refine hK.out _ _ ⟨by rw [HKx4.out.cell (p := ⟨qa, 0, none⟩) hql (fun e => e)]; exact q0, by rw [HKx4.out.cell (p := ⟨qa, 1, none⟩) hql (fun e => e)]; exact q1⟩ (fun hNext => ?_)
        clear hK K hHeld
        have hHeld := hNext
        clear hNext
        try simp only [Act.put, List.setIfInBounds_toArray, List.set_cons_zero, List.set_cons_succ, List.getElem_toArray, List.getElem_cons_zero, List.getElem_cons_succ]
        refine wpAnyH_ready (rs := [0, 8]) (by kernel_rfl) (by simp) ?_
        refine (AllReadyH.cons rfl (fun K hK => ?_) (AllReadyH.cons rfl (fun K hK => ?_) AllReadyH.nil))
        · have vc : (xw4).cell? ⟨pb, 0, none⟩ = some (.slice (some ⟨g4, 0, none⟩) L.length cap4) := (HV5.out.same HKx4.out).c
          go_simp
          refine hK.out _ _ hHeld (fun hNext => ?_)
          clear vc
          clear hK K hHeld
          have hHeld := hNext
          clear hNext
          try simp only [Act.put, List.setIfInBounds_toArray, List.set_cons_zero, List.set_cons_succ, List.getElem_toArray, List.getElem_cons_zero, List.getElem_cons_succ]
          refine wpAnyH_ready (rs := [8]) (by kernel_rfl) (by simp) ?_
          refine (AllReadyH.cons rfl (fun K hK => ?_) AllReadyH.nil)
          · go_simp
            refine (HCL.out _ xv (by first | exact Or.inl rfl | exact Or.inr rfl) HKx4.out).mono ?_
            rintro e xw5 ⟨rfl, hxw⟩
            have HKx5 : Hid (Kept (fun _ => False) W5 xw5) := by obtain ⟨kk, rfl⟩ := hxw; exact HKx4.out.drewN kk
            clear hxw
            refine hK.out _ _ ⟨by rw [HKx5.out.cell (p := ⟨qa, 0, none⟩) hql (fun e => e)]; exact q0, by rw [HKx5.out.cell (p := ⟨qa, 1, none⟩) hql (fun e => e)]; exact q1⟩ (fun hNext => ?_)
            clear hK K hHeld
            have hHeld := hNext
            clear hNext
            try simp only [Act.put, List.setIfInBounds_toArray, List.set_cons_zero, List.set_cons_succ, List.getElem_toArray, List.getElem_cons_zero, List.getElem_cons_succ]
            refine wpAnyH_take (i := 9) (v := ?_) rfl (by kernel_rfl) (by kernel_rfl) (by kernel_rfl) (fun _ _ _ h => h) (Or.inl ⟨by rfl, ?_⟩) hHeld ?_
            rotate_left
            · (intro v9 hS9; go_simp; try with_reducible rfl)
            try simp only [Act.put, List.setIfInBounds_toArray, List.set_cons_zero, List.set_cons_succ, List.getElem_toArray, List.getElem_cons_zero, List.getElem_cons_succ]
            refine wpAnyH_ready (rs := [10]) (by kernel_rfl) (by simp) ?_
            refine (AllReadyH.cons rfl (fun K hK => ?_) AllReadyH.nil)
            · go_simp
              have HKx6 : Hid (Kept (fun _ => False) W5 (xw5.alloc (.cells #[.int .u64 (yy : Int)] 78))) := HKx5.out.alloc _
              refine hK.out _ _ ⟨by rw [HKx6.out.cell (p := ⟨qa, 0, none⟩) hql (fun e => e)]; exact q0, by rw [HKx6.out.cell (p := ⟨qa, 1, none⟩) hql (fun e => e)]; exact q1⟩ (fun hNext => ?_)
              clear hK K hHeld
              have hHeld := hNext
              clear hNext
              try simp only [Act.put, List.setIfInBounds_toArray, List.set_cons_zero, List.set_cons_succ, List.getElem_toArray, List.getElem_cons_zero, List.getElem_cons_succ]
              refine wpAnyH_ready (rs := [11]) (by kernel_rfl) (by simp) ?_
              refine (AllReadyH.cons rfl (fun K hK => ?_) AllReadyH.nil)
              · refine step_u _ (by rfl) _ _ (by rfl) Z.heap.size (.slice (some ⟨g4, 0, none⟩) L.length cap4) L yy (by rfl) xw5.heap.size (by rfl) (by simp) (HO5.out.kept HKx6.out (fun _ _ e => e)) (Nat.le_trans HB5.out HKx6.out.size) HLN.out L6 HLA.out ?_
                intro g6 cp6 w6 ho6 hk6 hg6
                have hk7 : Kept (fun k => k = g4) (xw5.alloc (.cells #[.int .u64 (yy : Int)] 78)) w6 := hk6.mono (fun k e => (by simpa [Value.ownBlock] using e : g4 = k).symm)
                have hg7 : g6 = g4 ∨ (xw5.alloc (.cells #[.int .u64 (yy : Int)] 78)).heap.size ≤ g6 := by rcases hg6 with e | e; exact .inl (by simpa [Value.ownBlock] using e.symm); exact .inr e
                have hvb := HV5.out.same HKx6.out
                have HV7 : Hid (Vb Z (w6.setCell ⟨pb, 0, none⟩ (.slice (some ⟨g6, 0, none⟩) L6.length cp6)) pb g6 cp6 L6) := hvb.fill ho6 hk7 hg7
                have k0 : w6.cell? ⟨pb, 0, none⟩ = some (.slice (some ⟨g4, 0, none⟩) L.length cap4) := by rw [hk7.cell (p := ⟨pb, 0, none⟩) hvb.lt HPN.out]; exact hvb.c
                have kz : w6.frozen? ⟨pb, 0, none⟩ = false := by rw [hk7.frozen (p := ⟨pb, 0, none⟩) hvb.lt HPN.out]; exact hvb.z
                have hqw : qa < (xw5.alloc (.cells #[.int .u64 (yy : Int)] 78)).heap.size := Nat.lt_of_lt_of_le hql HKx6.out.size
                have a0 : w6.cell? ⟨qa, 0, none⟩ = some (.int .i64 xa) := by rw [hk7.cell (p := ⟨qa, 0, none⟩) hqw HNQ.out.1, HKx6.out.cell (p := ⟨qa, 0, none⟩) hql (fun e => e)]; exact q0
                have a1 : w6.cell? ⟨qa, 1, none⟩ = some (.int .i64 xv) := by rw [hk7.cell (p := ⟨qa, 1, none⟩) hqw HNQ.out.1, HKx6.out.cell (p := ⟨qa, 1, none⟩) hql (fun e => e)]; exact q1
                have hq6 : qa < w6.heap.size := Nat.lt_of_lt_of_le hqw hk7.size
                refine hK.out _ _ ⟨a0, a1⟩ (fun hNext => ?_)
                clear ho6 hk6 hg6 hk7 hg7 hvb hqw
                clear hK K hHeld
                have hHeld := hNext
                clear hNext
                try simp only [Act.put, List.setIfInBounds_toArray, List.set_cons_zero, List.set_cons_succ, List.getElem_toArray, List.getElem_cons_zero, List.getElem_cons_succ]
                refine wpAnyH_ready (rs := [12]) (by kernel_rfl) (by simp) ?_
                refine (AllReadyH.cons rfl (fun K hK => ?_) AllReadyH.nil)
                go_simp
                have K8 : Kept (fun k => k = pb) w6 (w6.setCell ⟨pb, 0, none⟩ (.slice (some ⟨g6, 0, none⟩) L6.length cp6)) := Kept.setCell (S := fun k => k = pb) (Kept.refl _ _) (p := ⟨pb, 0, none⟩) rfl _
                refine hK.out _ _ ⟨by rw [K8.cell (p := ⟨qa, 0, none⟩) hq6 HNQ.out.2]; exact a0, by rw [K8.cell (p := ⟨qa, 1, none⟩) hq6 HNQ.out.2]; exact a1⟩ (fun hNext => ?_)
                clear hK K hHeld K8 a0 a1 k0 kz hq6
                refine wpAnyH_done (by kernel_rfl) ?_ _
                clear hNext
                generalize w6.setCell ⟨pb, 0, none⟩ (.slice (some ⟨g6, 0, none⟩) L6.length cp6) = W7 at *
                go_wp2
                go_roundw
                case rel => exact ⟨k + 1, L6, g6, cp6, by omega, by go_num, HL6.out, HV7.out⟩
                case measure => simp [intOf]; omega
        · go_simp
          refine (HCL.out _ xv (by first | exact Or.inl rfl | exact Or.inr rfl) HKx4.out).mono ?_
          rintro e xw7 ⟨rfl, hxw⟩
          have HKx7 : Hid (Kept (fun _ => False) W5 xw7) := by obtain ⟨kk, rfl⟩ := hxw; exact HKx4.out.drewN kk
          clear hxw
          refine hK.out _ _ ⟨by rw [HKx7.out.cell (p := ⟨qa, 0, none⟩) hql (fun e => e)]; exact q0, by rw [HKx7.out.cell (p := ⟨qa, 1, none⟩) hql (fun e => e)]; exact q1⟩ (fun hNext => ?_)
          clear hK K hHeld
          have hHeld := hNext
          clear hNext
          try simp only [Act.put, List.setIfInBounds_toArray, List.set_cons_zero, List.set_cons_succ, List.getElem_toArray, List.getElem_cons_zero, List.getElem_cons_succ]
          refine wpAnyH_take (i := 9) (v := ?_) rfl (by kernel_rfl) (by kernel_rfl) (by kernel_rfl) (fun _ _ _ h => h) (Or.inl ⟨by rfl, ?_⟩) hHeld ?_
          rotate_left
          · (intro v9 hS9; go_simp; try with_reducible rfl)
          try simp only [Act.put, List.setIfInBounds_toArray, List.set_cons_zero, List.set_cons_succ, List.getElem_toArray, List.getElem_cons_zero, List.getElem_cons_succ]
          refine wpAnyH_ready (rs := [0, 10]) (by kernel_rfl) (by simp) ?_
          refine (AllReadyH.cons rfl (fun K hK => ?_) (AllReadyH.cons rfl (fun K hK => ?_) AllReadyH.nil))
          · have vc : (xw7).cell? ⟨pb, 0, none⟩ = some (.slice (some ⟨g4, 0, none⟩) L.length cap4) := (HV5.out.same HKx7.out).c
            go_simp
            refine hK.out _ _ hHeld (fun hNext => ?_)
            clear vc
            clear hK K hHeld
            have hHeld := hNext
            clear hNext
            try simp only [Act.put, List.setIfInBounds_toArray, List.set_cons_zero, List.set_cons_succ, List.getElem_toArray, List.getElem_cons_zero, List.getElem_cons_succ]
            refine wpAnyH_ready (rs := [10]) (by kernel_rfl) (by simp) ?_
            refine (AllReadyH.cons rfl (fun K hK => ?_) AllReadyH.nil)
            · go_simp
              have HKx8 : Hid (Kept (fun _ => False) W5 (xw7.alloc (.cells #[.int .u64 (yy : Int)] 78))) := HKx7.out.alloc _
              refine hK.out _ _ ⟨by rw [HKx8.out.cell (p := ⟨qa, 0, none⟩) hql (fun e => e)]; exact q0, by rw [HKx8.out.cell (p := ⟨qa, 1, none⟩) hql (fun e => e)]; exact q1⟩ (fun hNext => ?_)
              clear hK K hHeld
              have hHeld := hNext
              clear hNext
              try simp only [Act.put, List.setIfInBounds_toArray, List.set_cons_zero, List.set_cons_succ, List.getElem_toArray, List.getElem_cons_zero, List.getElem_cons_succ]
              refine wpAnyH_ready (rs := [11]) (by kernel_rfl) (by simp) ?_
              refine (AllReadyH.cons rfl (fun K hK => ?_) AllReadyH.nil)
              · refine step_u _ (by rfl) _ _ (by rfl) Z.heap.size (.slice (some ⟨g4, 0, none⟩) L.length cap4) L yy (by rfl) xw7.heap.size (by rfl) (by simp) (HO5.out.kept HKx8.out (fun _ _ e => e)) (Nat.le_trans HB5.out HKx8.out.size) HLN.out L6 HLA.out ?_
                intro g6 cp6 w6 ho6 hk6 hg6
                have hk7 : Kept (fun k => k = g4) (xw7.alloc (.cells #[.int .u64 (yy : Int)] 78)) w6 := hk6.mono (fun k e => (by simpa [Value.ownBlock] using e : g4 = k).symm)
                have hg7 : g6 = g4 ∨ (xw7.alloc (.cells #[.int .u64 (yy : Int)] 78)).heap.size ≤ g6 := by rcases hg6 with e | e; exact .inl (by simpa [Value.ownBlock] using e.symm); exact .inr e
                have hvb := HV5.out.same HKx8.out
                have HV7 : Hid (Vb Z (w6.setCell ⟨pb, 0, none⟩ (.slice (some ⟨g6, 0, none⟩) L6.length cp6)) pb g6 cp6 L6) := hvb.fill ho6 hk7 hg7
                have k0 : w6.cell? ⟨pb, 0, none⟩ = some (.slice (some ⟨g4, 0, none⟩) L.length cap4) := by rw [hk7.cell (p := ⟨pb, 0, none⟩) hvb.lt HPN.out]; exact hvb.c
                have kz : w6.frozen? ⟨pb, 0, none⟩ = false := by rw [hk7.frozen (p := ⟨pb, 0, none⟩) hvb.lt HPN.out]; exact hvb.z
                have hqw : qa < (xw7.alloc (.cells #[.int .u64 (yy : Int)] 78)).heap.size := Nat.lt_of_lt_of_le hql HKx8.out.size
                have a0 : w6.cell? ⟨qa, 0, none⟩ = some (.int .i64 xa) := by rw [hk7.cell (p := ⟨qa, 0, none⟩) hqw HNQ.out.1, HKx8.out.cell (p := ⟨qa, 0, none⟩) hql (fun e => e)]; exact q0
                have a1 : w6.cell? ⟨qa, 1, none⟩ = some (.int .i64 xv) := by rw [hk7.cell (p := ⟨qa, 1, none⟩) hqw HNQ.out.1, HKx8.out.cell (p := ⟨qa, 1, none⟩) hql (fun e => e)]; exact q1
                have hq6 : qa < w6.heap.size := Nat.lt_of_lt_of_le hqw hk7.size
                refine hK.out _ _ ⟨a0, a1⟩ (fun hNext => ?_)
                clear ho6 hk6 hg6 hk7 hg7 hvb hqw
                clear hK K hHeld
                have hHeld := hNext
                clear hNext
                try simp only [Act.put, List.setIfInBounds_toArray, List.set_cons_zero, List.set_cons_succ, List.getElem_toArray, List.getElem_cons_zero, List.getElem_cons_succ]
                refine wpAnyH_ready (rs := [12]) (by kernel_rfl) (by simp) ?_
                refine (AllReadyH.cons rfl (fun K hK => ?_) AllReadyH.nil)
                go_simp
                have K8 : Kept (fun k => k = pb) w6 (w6.setCell ⟨pb, 0, none⟩ (.slice (some ⟨g6, 0, none⟩) L6.length cp6)) := Kept.setCell (S := fun k => k = pb) (Kept.refl _ _) (p := ⟨pb, 0, none⟩) rfl _
                refine hK.out _ _ ⟨by rw [K8.cell (p := ⟨qa, 0, none⟩) hq6 HNQ.out.2]; exact a0, by rw [K8.cell (p := ⟨qa, 1, none⟩) hq6 HNQ.out.2]; exact a1⟩ (fun hNext => ?_)
                clear hK K hHeld K8 a0 a1 k0 kz hq6
                refine wpAnyH_done (by kernel_rfl) ?_ _
                clear hNext
                generalize w6.setCell ⟨pb, 0, none⟩ (.slice (some ⟨g6, 0, none⟩) L6.length cp6) = W7 at *
                go_wp2
                go_roundw
                case rel => exact ⟨k + 1, L6, g6, cp6, by omega, by go_num, HL6.out, HV7.out⟩
                case measure => simp [intOf]; omega
          · go_simp
            have HKx9 : Hid (Kept (fun _ => False) W5 (xw7.alloc (.cells #[.int .u64 (yy : Int)] 78))) := HKx7.out.alloc _
            refine hK.out _ _ ⟨by rw [HKx9.out.cell (p := ⟨qa, 0, none⟩) hql (fun e => e)]; exact q0, by rw [HKx9.out.cell (p := ⟨qa, 1, none⟩) hql (fun e => e)]; exact q1⟩ (fun hNext => ?_)
            clear hK K hHeld
            have hHeld := hNext
            clear hNext
            try simp only [Act.put, List.setIfInBounds_toArray, List.set_cons_zero, List.set_cons_succ, List.getElem_toArray, List.getElem_cons_zero, List.getElem_cons_succ]
            refine wpAnyH_ready (rs := [0]) (by kernel_rfl) (by simp) ?_
            refine (AllReadyH.cons rfl (fun K hK => ?_) AllReadyH.nil)
            · have vc : (xw7.alloc (.cells #[.int .u64 (yy : Int)] 78)).cell? ⟨pb, 0, none⟩ = some (.slice (some ⟨g4, 0, none⟩) L.length cap4) := (HV5.out.same HKx9.out).c
              go_simp
              refine hK.out _ _ hHeld (fun hNext => ?_)
              clear vc
              clear hK K hHeld
              have hHeld := hNext
              clear hNext
              try simp only [Act.put, List.setIfInBounds_toArray, List.set_cons_zero, List.set_cons_succ, List.getElem_toArray, List.getElem_cons_zero, List.getElem_cons_succ]
              refine wpAnyH_ready (rs := [11]) (by kernel_rfl) (by simp) ?_
              refine (AllReadyH.cons rfl (fun K hK => ?_) AllReadyH.nil)
              · refine step_u _ (by rfl) _ _ (by rfl) Z.heap.size (.slice (some ⟨g4, 0, none⟩) L.length cap4) L yy (by rfl) xw7.heap.size (by rfl) (by simp) (HO5.out.kept HKx9.out (fun _ _ e => e)) (Nat.le_trans HB5.out HKx9.out.size) HLN.out L6 HLA.out ?_
                intro g6 cp6 w6 ho6 hk6 hg6
                have hk7 : Kept (fun k => k = g4) (xw7.alloc (.cells #[.int .u64 (yy : Int)] 78)) w6 := hk6.mono (fun k e => (by simpa [Value.ownBlock] using e : g4 = k).symm)
                have hg7 : g6 = g4 ∨ (xw7.alloc (.cells #[.int .u64 (yy : Int)] 78)).heap.size ≤ g6 := by rcases hg6 with e | e; exact .inl (by simpa [Value.ownBlock] using e.symm); exact .inr e
                have hvb := HV5.out.same HKx9.out
                have HV7 : Hid (Vb Z (w6.setCell ⟨pb, 0, none⟩ (.slice (some ⟨g6, 0, none⟩) L6.length cp6)) pb g6 cp6 L6) := hvb.fill ho6 hk7 hg7
                have k0 : w6.cell? ⟨pb, 0, none⟩ = some (.slice (some ⟨g4, 0, none⟩) L.length cap4) := by rw [hk7.cell (p := ⟨pb, 0, none⟩) hvb.lt HPN.out]; exact hvb.c
                have kz : w6.frozen? ⟨pb, 0, none⟩ = false := by rw [hk7.frozen (p := ⟨pb, 0, none⟩) hvb.lt HPN.out]; exact hvb.z
                have hqw : qa < (xw7.alloc (.cells #[.int .u64 (yy : Int)] 78)).heap.size := Nat.lt_of_lt_of_le hql HKx9.out.size
                have a0 : w6.cell? ⟨qa, 0, none⟩ = some (.int .i64 xa) := by rw [hk7.cell (p := ⟨qa, 0, none⟩) hqw HNQ.out.1, HKx9.out.cell (p := ⟨qa, 0, none⟩) hql (fun e => e)]; exact q0
                have a1 : w6.cell? ⟨qa, 1, none⟩ = some (.int .i64 xv) := by rw [hk7.cell (p := ⟨qa, 1, none⟩) hqw HNQ.out.1, HKx9.out.cell (p := ⟨qa, 1, none⟩) hql (fun e => e)]; exact q1
                have hq6 : qa < w6.heap.size := Nat.lt_of_lt_of_le hqw hk7.size
                refine hK.out _ _ ⟨a0, a1⟩ (fun hNext => ?_)
                clear ho6 hk6 hg6 hk7 hg7 hvb hqw
                clear hK K hHeld
                have hHeld := hNext
                clear hNext
                try simp only [Act.put, List.setIfInBounds_toArray, List.set_cons_zero, List.set_cons_succ, List.getElem_toArray, List.getElem_cons_zero, List.getElem_cons_succ]
                refine wpAnyH_ready (rs := [12]) (by kernel_rfl) (by simp) ?_
                refine (AllReadyH.cons rfl (fun K hK => ?_) AllReadyH.nil)
                go_simp
                have K8 : Kept (fun k => k = pb) w6 (w6.setCell ⟨pb, 0, none⟩ (.slice (some ⟨g6, 0, none⟩) L6.length cp6)) := Kept.setCell (S := fun k => k = pb) (Kept.refl _ _) (p := ⟨pb, 0, none⟩) rfl _
                refine hK.out _ _ ⟨by rw [K8.cell (p := ⟨qa, 0, none⟩) hq6 HNQ.out.2]; exact a0, by rw [K8.cell (p := ⟨qa, 1, none⟩) hq6 HNQ.out.2]; exact a1⟩ (fun hNext => ?_)
                clear hK K hHeld K8 a0 a1 k0 kz hq6
                refine wpAnyH_done (by kernel_rfl) ?_ _
                clear hNext
                generalize w6.setCell ⟨pb, 0, none⟩ (.slice (some ⟨g6, 0, none⟩) L6.length cp6) = W7 at *
                go_wp2
                go_roundw
                case rel => exact ⟨k + 1, L6, g6, cp6, by omega, by go_num, HL6.out, HV7.out⟩
                case measure => simp [intOf]; omega
    · have e : k = l.length := by omega
      subst e
      go_wp2_with fail
      have hc := HV.out.c
      have ho := HV.out.o
      rw [HL.out] at hc ho
      refine (iAt wr _ pb g4 cap4 U n l l.length hc ho x (by omega) (by omega) (by omega)).mono ?_
      rintro e w9 ⟨rfl, kk, rfl⟩
      clear hc ho
      go_wp2
      go_ret
      have hb := HBZ.out.trans (HV.out.b.mono HBZ.out.size)
      exact ⟨rfl, ⟨hb.os, hb.tape, hb.output, hb.size, hb.block⟩⟩

end Go.Proofs.Ytnpfegfjejfaaaa.Gp7

import Derived.Deep.RegionHeld
import Derived.Test.YtiaimhgfimhepaaGreatDoorPkVV35
import Derived.Test.YtiaimhgfimhepaaGreatDoorShelf2
import Derived.Test.YtiaimhgfimhepaaGreatDoorPkVV34
import Derived.Test.YtiaimhgfimhepaaGreatDoorMp0
import Derived.Test.YtiaimhgfimhepaaGreatDoorPkVV33
namespace Go.Proofs.YtiaimhgfimhepaaGreatDoor
set_option maxRecDepth 100000
set_option maxHeartbeats 8000000
set_option linter.unusedVariables false
namespace Pr11
open Go.RowKit
open Nd0 Nd3 Tm0 Tx0 Tx1 Tx5 Ss0 Ss1 Tb0 Tb1 Px0 Pr1 Pr2 Pr10
open Ss5 (Kb)
open Ss3 (kept_set)
theorem cut_at (s : List UInt8) : (if 0 <= Lib.index s [32] then s.take (Lib.index s [32]).toNat else s) = s.takeWhile (fun c => c != 32) := by
 induction s with
 | nil => simp [Lib.index]
 | cons c l ih =>
   by_cases h : c = 32
   ·subst h
    have e : Lib.index (32 :: l) [32] = 0 := by unfold Lib.index; rw [if_pos (by simp [List.isPrefixOf])]
    rw [e]; simp
   ·rw [List.takeWhile_cons_of_pos (by simp [h]), <- ih]
    have e : Lib.index (c :: l) [32] = if Lib.index l [32] == -1 then -1 else Lib.index l [32] + 1 := by
     conv => lhs; unfold Lib.index
     rw [if_neg (by simp [List.isPrefixOf]; exact fun z => h z.symm)]
    have hg := Lib.index_ge l [32]
    by_cases e1 : Lib.index l [32] = -1
    ·rw [e, e1]; simp
    ·have h0 : 0 <= Lib.index l [32] := by omega
     have e2 : Lib.index (c :: l) [32] = Lib.index l [32] + 1 := by rw [e, if_neg (by simpa using e1)]
     rw [e2, if_pos (by omega), if_pos h0, show (Lib.index l [32] + 1).toNat = (Lib.index l [32]).toNat + 1 by omega, List.take_succ_cons]
theorem cut_one (s : List UInt8) : (Lib.cut s [32]).1 = s.takeWhile (fun c => c != 32) := by
 rw [<- cut_at]
 unfold Lib.cut
 split <;> rfl
def cutX (S : ByteArray) : ByteArray := ⟨(Lib.cut S.data.toList [32]).1.toArray⟩
def cutY (S : ByteArray) : ByteArray := ⟨(Lib.cut S.data.toList [32]).2.1.toArray⟩
def cutB (S : ByteArray) : Bool := (Lib.cut S.data.toList [32]).2.2
theorem cutX_tl (S : ByteArray) : tl (cutX S) = (tl S).takeWhile (fun c => c != 32) := by
 rw [<- cut_one]; rfl
theorem iCut (S : ByteArray) (w : World) (hm : ∃ m, w.cell? ⟨2, 0, none⟩ = some (.int .i64 m)) (hs : S.size <= 100000) :
 Calls Tryz.prog 97 #[.string S, .string ⟨#[32]⟩] w fun e w' => e = .returned (.tuple #[.string (cutX S), .string (cutY S), .bool (cutB S)]) /\ ∃ n, w' = w.drewN n := by
 obtain ⟨m, hm⟩ := hm
 exact Tryz.strings_Cut S ⟨#[32]⟩ m w (by omega) hm
theorem kb_below {b : Nat} {w w2 w3 : World} (h : Kb b w w2) (k : Below w2.heap.size w2 w3) : Kb b w w3 :=
 ⟨k.os.trans h.os, k.tape.trans h.tape, k.output.trans h.output, Nat.le_trans h.size k.size, fun i hi hn => by rw [k.block i (Nat.lt_of_lt_of_le hi h.size), h.block i hi hn]⟩
theorem iOperator (w : World) (b : Nat) (S : ByteArray) (p : Nat) (v : Value) (bm : Nat) (st : Nat) (hg : ∀ w', Kb b w w' -> TabR w') (h : RB w b S p v bm) (hs : S.size <= 100000) (hp : p <= S.size) :
 Calls Tryz.prog 66 #[.pointer (some ⟨b, 0, none⟩), .int .i64 st] w fun e w' => Out (pOp (tl S) st p) (fun y => e = .returned (.int .i64 (y.1 : Int)) /\ RB w' b S y.2 v bm /\ y.2 <= S.size) (fun x => e = .panicked [fl x]) /\ Kb b w w' := by
 have H : Hid (RB w b S p v bm) := h
 have HG : Hid (∀ w', Kb b w w' -> TabR w') := hg
 clear h hg
 go_enter Tryz.func66, Tryz.ntmps66
 go_wp2_with fail
 refine (iNeed _ b S p v bm 40 st H.out hs hp).mono ?_
 rintro e w1 ⟨ho1, hk1⟩
 have HK1 : Hid (Kb b w w1) := hk1
 clear hk1
 cases h1 : pNeed (tl S) 40 st p with
 | error x =>
   obtain rfl := ho1.2 x h1
   have HP : Hid (pOp (tl S) st p = .error x) := by show _ = _; unfold pOp; rw [h1]; rfl
   clear ho1 h1
   go_wp2
   exact ⟨rfl, Out.error HP.out rfl, HK1.out⟩
 | ok p1 =>
   obtain ⟨rfl, hr1, hp1⟩ := ho1.1 p1 h1
   have H1 : Hid (RB w1 b S p1 v bm) := hr1
   have HP1 : Hid (pNeed (tl S) 40 st p = .ok p1) := h1
   clear ho1 h1 hr1
   have hpz : (p1 : Int) <= (S.size : Int) := by omega
   have hmx := (HG.out _ HK1.out).max
   have HMX : Hid (∃ m, w1.cell? ⟨2, 0, none⟩ = some (.int .i64 m)) := hmx
   have HSZ : Hid ((S.extract p1 S.size).size <= 100000) := by show _ <= _; rw [ByteArray.size_extract]; omega
   have HWD : Hid (tl (cutX (S.extract p1 S.size)) = pWord (tl S) p1) := by
    show _ = _
    rw [cutX_tl, tl_ext, List.take_of_length_le (by rw [tl_length]; exact Nat.le_refl _)]
    rfl
   clear hmx
   have c0 := H1.out.c0
   have c1 := H1.out.c1
   go_wp2_with fail
   go_quiet ((go_at_call 97; exact Calls.quiet_of (iCut _ _ HMX.out HSZ.out)))
   obtain ⟨X, hX⟩ : ∃ X, cutX (S.extract p1 S.size) = X := ⟨_, rfl⟩
   have HXW : Hid (tl X = pWord (tl S) p1) := by show _ = _; rw [<- hX]; exact HWD.out
   have HXS : Hid (X.size = (pWord (tl S) p1).length) := by show _ = _; rw [<- HXW.out, tl_length]
   have HXL : Hid (p1 + (pWord (tl S) p1).length <= S.size) := by
    show _ <= _
    have h1 := (List.takeWhile_sublist (fun c : UInt8 => c != 32) (l := (tl S).drop p1)).length_le
    rw [List.length_drop, tl_length] at h1
    unfold pWord
    omega
   have H2 : Hid (RB (w1.drewN nq) b S p1 v bm) := H1.out.drewN _
   have HK2 : Hid (Kb b w (w1.drewN nq)) := HK1.out.drewN _
   generalize w1.drewN nq = w2 at H2 HK2
   rw [hX]
   clear hX c0 c1
   have hxz : (p1 : Int) + (X.size : Int) <= 100000 := by have := HXS.out; have := HXL.out; omega
   have hxz0 : (0 : Int) <= (p1 : Int) + (X.size : Int) := by omega
   go_wp2_with fail
   refine (iOpOf _ _ (HG.out _ HK2.out).tabs).mono ?_
   rw [HXW.out]
   rintro e w3 ⟨rfl, hb3⟩
   have H3 : Hid (RB w3 b S p1 v bm) := H2.out.below hb3
   have HK3 : Hid (Kb b w w3) := kb_below HK2.out hb3
   have m1 := H3.out.c1
   have g1 := H3.out.f1
   clear hb3
   cases ho : opP (pWord (tl S) p1) with
   | none =>
     have HP : Hid (pOp (tl S) st p = .error (2, st)) := by show _ = _; unfold pOp; rw [HP1.out]; simp only [Except.bind]; rw [ho]
     clear ho
     simp only [Option.getD_none, Option.isSome_none]
     go_wp2_with fail
     refine (iFail _ _ _).mono ?_
     rintro e w' ⟨rfl, rfl⟩
     go_wp2
     exact ⟨rfl, Out.error HP.out rfl, HK3.out⟩
   | some o =>
     have HP : Hid (pOp (tl S) st p = .ok (o, p1 + (pWord (tl S) p1).length)) := by show _ = _; unfold pOp; rw [HP1.out]; simp only [Except.bind]; rw [ho]
     clear ho
     simp only [Option.getD_some, Option.isSome_some]
     go_wp2
     go_ret
     refine ⟨Out.ok HP.out ⟨rfl, H3.out.move _ _ ?_, HXL.out⟩, kept_set HK3.out _⟩
     have := HXS.out
     omega
end Pr11
namespace Px4
open Nd0 Tm0 Tx0 Tx1 Tx5 Px0 Px1
open Mp0 (WfN wf_small)
theorem put_grow {st p : Nat} {t : List Nd} {n : Nd} {y : Nat × St} (h : pPut st p t n = .ok y) : y.1 < y.2.2.length /\ ∃ m, y.2.2 = t ++ m := by
 unfold pPut at h
 obtain ⟨z, hz, h⟩ := bind_ok h
 cases h
 exact put_ok hz
theorem many_grow {s : List UInt8} {rd : St -> Except Er (Nat × St)} {st : Nat} (hr : ∀ x y, rd x = .ok y -> y.1 < y.2.2.length /\ ∃ m, y.2.2 = x.2 ++ m) : ∀ {k : Nat} {x : St} {y : List Nat × St}, pMany s rd st k x = .ok y -> (∀ i ∈ y.1, i < y.2.2.length) /\ ∃ m, y.2.2 = x.2 ++ m := by
 intro k
 induction k with
 | zero => intro x y h; simp only [pMany] at h; cases h; exact ⟨by simp, [], by simp⟩
 | succ k ih =>
   intro x y h
   simp only [pMany] at h
   obtain ⟨p1, h1, h⟩ := bind_ok h
   obtain ⟨u, h2, h⟩ := bind_ok h
   obtain ⟨z, h3, h⟩ := bind_ok h
   cases h
   obtain ⟨a1, m1, a2⟩ := hr _ _ h2
   obtain ⟨b1, m2, b2⟩ := ih h3
   simp only at a2
   refine ⟨?_, m1 ++ m2, by rw [b2, a2]; simp⟩
   intro i hi
   rcases List.mem_cons.1 hi with e | e
   ·subst e; simp only; rw [b2, List.length_append]; omega
   ·exact b1 i e
theorem node_grow (s : List UInt8) : ∀ (f : Nat) (x : St) (y : Nat × St), pNode s f x = .ok y -> y.1 < y.2.2.length /\ ∃ m, y.2.2 = x.2 ++ m := by
 intro f
 induction f with
 | zero => intro x y h; cases h
 | succ f ih =>
   intro x y h
   simp only [pNode] at h
   split at h
   ·obtain ⟨z, h1, h⟩ := bind_ok h
    exact put_grow h
   ·split at h
    ·obtain ⟨z, h1, h⟩ := bind_ok h
     exact put_grow h
    ·obtain ⟨o, h1, h⟩ := bind_ok h
     obtain ⟨z, h2, h⟩ := bind_ok h
     obtain ⟨u, h3, h⟩ := bind_ok h
     unfold pParts at h3
     obtain ⟨m, h5, h3⟩ := bind_ok h3
     obtain ⟨q, h6, h3⟩ := bind_ok h3
     cases h3
     obtain ⟨_, m1, a2⟩ := many_grow (fun x y h => ih x y h) h5
     obtain ⟨b1, m2, b2⟩ := put_grow h
     exact ⟨b1, m1 ++ m2, by rw [b2]; simp only at a2 ⊢; rw [a2]; simp⟩
theorem num_small {s : List UInt8} {st p : Nat} {y : Nat × Nat} (h : pNum s st p = .ok y) : y.1 < 1000000000 := by
 unfold pNum at h
 split at h
 ·rename_i k hk
  cases h
  exact (num_some hk).2.1
 ·cases h
theorem pair_small {s : List UInt8} {c : UInt8} {st p : Nat} {y : (Nat × Nat) × Nat} (h : pPair s c st p = .ok y) : y.1.1 < 1000000000 /\ y.1.2 < 1000000000 := by
 unfold pPair at h
 obtain ⟨p1, h1, h⟩ := bind_ok h
 obtain ⟨x, h2, h⟩ := bind_ok h
 obtain ⟨p3, h3, h⟩ := bind_ok h
 obtain ⟨z, h4, h⟩ := bind_ok h
 obtain ⟨q, h5, h⟩ := bind_ok h
 cases h
 have a1 := num_small h2
 have a2 := num_small h4
 exact ⟨a1, a2⟩
structure Sm (n : Nd) : Prop where
 w0 : 0 <= n.w
 w1 : n.w <= 1000000000
 k0 : 0 <= n.k
 k1 : n.k <= 1000000000
 b0 : 0 <= n.b
 b1 : n.b <= 1000000000
theorem op_le {s : List UInt8} {st p : Nat} {y : Nat × Nat} (h : pOp s st p = .ok y) : 2 <= y.1 /\ y.1 <= 20 := by
 unfold pOp at h
 obtain ⟨p1, h1, h⟩ := bind_ok h
 split at h
 ·rename_i o ho
  cases h
  unfold opP at ho
  obtain ⟨i, hi, rfl⟩ := Option.map_eq_some_iff.1 ho
  have := List.mem_range.1 (List.mem_of_find?_eq_some hi)
  simp only
  omega
 ·cases h
theorem nums_small {s : List UInt8} {o st p : Nat} {y : Nd × Nat} (h : pNums s o st p = .ok y) : y.1.op = (o : Int) /\ Sm y.1 := by
 unfold pNums at h
 split at h
 ·obtain ⟨p1, h1, h⟩ := bind_ok h
  obtain ⟨x, h2, h⟩ := bind_ok h
  obtain ⟨p3, h3, h⟩ := bind_ok h
  obtain ⟨z, h4, h⟩ := bind_ok h
  cases h
  have := num_small h2
  have := num_small h4
  refine ⟨rfl, ?_⟩
  constructor <;> simp only <;> omega
 ·split at h
  ·obtain ⟨p1, h1, h⟩ := bind_ok h
   obtain ⟨x, h2, h⟩ := bind_ok h
   cases h
   have := pair_small h2
   refine ⟨rfl, ?_⟩
   constructor <;> simp only <;> omega
  ·cases h
   refine ⟨rfl, ?_⟩
   constructor <;> simp
theorem getD_small {is : List Nat} {L : Nat} (h : ∀ i ∈ is, i < L) (j : Nat) : is.getD j 0 = 0 \/ is.getD j 0 < L := by
 by_cases hj : j < is.length
 ·rw [List.getD_eq_getElem?_getD, List.getElem?_eq_getElem hj, Option.getD_some]
  exact .inr (h _ (List.getElem_mem _))
 ·rw [List.getD_eq_getElem?_getD, List.getElem?_eq_none (by omega)]
  exact .inl rfl
theorem getD_in {is : List Nat} {L : Nat} (h : ∀ i ∈ is, i < L) {j : Nat} (hj : j < is.length) : is.getD j 0 < L := by
 rw [List.getD_eq_getElem?_getD, List.getElem?_eq_getElem hj, Option.getD_some]
 exact h _ (List.getElem_mem _)
structure Pn (n m : Nd) (L : Nat) : Prop where
 op : m.op = n.op
 w : m.w = n.w
 k : m.k = n.k
 a0 : 0 <= m.a
 a1 : m.a <= L
 b0 : 0 <= m.b
 b1 : m.b <= 1000000000
 c0 : 0 <= m.c
 c1 : m.c <= L
 ha : 2 <= m.op /\ m.op <= 12 \/ m.op = 16 -> 0 <= m.a /\ m.a < L
 hb : m.op = 16 \/ m.op = 18 -> 0 <= m.b /\ m.b < L
theorem parts_read {s : List UInt8} {f : Nat} {n : Nd} {st : Nat} {x : St} {z : Nd × St} (h : pParts s (pNode s f) n st x = .ok z) (hop : 2 <= n.op /\ n.op <= 20) (hs : Sm n) (hL : z.2.2.length <= 80) : Pn n z.1 z.2.2.length := by
 unfold pParts at h
 obtain ⟨m, h5, h⟩ := bind_ok h
 obtain ⟨q, h6, h⟩ := bind_ok h
 cases h
 have hl := many_len h5
 obtain ⟨hi, _⟩ := many_grow (fun x y h => node_grow s f x y h) h5
 simp only at hL
 have g0 := getD_small hi 0
 have g1 := getD_small hi 1
 have g2 := getD_small hi 2
 unfold setParts
 refine ⟨rfl, rfl, rfl, ?_, ?_, ?_, ?_, ?_, ?_, ?_, ?_⟩
 ·simp only; omega
 ·simp only; omega
 ·simp only; split
  ·omega
  ·exact hs.b0
 ·simp only; split
  ·omega
  ·exact hs.b1
 ·simp only; omega
 ·simp only; omega
 ·intro hc
  simp only at hc ⊢
  have : 1 <= m.1.length := by
   rw [hl]
   by_cases e2 : n.op = 2
   ·rw [parts_one (.inl e2)]; simp
   ·rw [parts_two (by omega)]; simp
  have := getD_in hi (j := 0) (by omega)
  omega
 ·intro hc
  simp only at hc ⊢
  have h2 : 1 < m.1.length := by
   rw [hl]
   rcases hc with e | e
   ·rw [parts_two (by omega)]; simp
   ·rw [parts_three e]; simp
  have := getD_in hi (j := 1) h2
  rw [if_pos h2]
  omega
theorem wid_small {t : List Nd} {n m : Nd} (hw : ∀ j, j < t.length -> 1 <= (nth t j).w /\ (nth t j).w <= 8) (hm : Pn n m t.length) (hs : Sm n) : 0 <= pWid t m /\ pWid t m <= 1000000000 := by
 unfold pWid
 split
 ·rename_i h
  have := hm.ha (.inl h)
  have := hw m.a.toNat (by omega)
  omega
 ·split
  ·rename_i h
   have := hm.ha (.inr h)
   have := hm.hb (.inl h)
   have := hw m.a.toNat (by omega)
   have := hw m.b.toNat (by omega)
   omega
  ·split
   ·rw [hm.w]; exact ⟨hs.w0, hs.w1⟩
   ·split
    ·rename_i h
     have := hm.hb (.inr h)
     have := hw m.b.toNat (by omega)
     omega
    ·omega
theorem wf_node {t : List Nd} {n m : Nd} (hw : ∀ j, j < t.length -> 1 <= (nth t j).w /\ (nth t j).w <= 8) (hL : t.length <= 80) (hop : 2 <= n.op /\ n.op <= 20) (hm : Pn n m t.length) (hs : Sm n) : WfN { m with w := pWid t m } := by
 have h := wid_small hw hm hs
 have ho := hm.op
 have hk := hm.k
 have := hs.k0
 have := hs.k1
 refine ⟨wf_small ?_ ?_, wf_small h.1 h.2, wf_small ?_ ?_, wf_small hm.a0 ?_, wf_small hm.b0 hm.b1, wf_small hm.c0 ?_⟩
 ·simp only; omega
 ·simp only; omega
 ·simp only; omega
 ·simp only; omega
 ·have := hm.a1; simp only; omega
 ·have := hm.c1; simp only; omega
theorem wf_leaf (o : Int) (a b : Nat) (ho : o = 0 \/ o = 1) (ha : a < 1000000000) (hb : b < 1000000000) : WfN ⟨o, a, b, 0, 0, 0⟩ := by
 refine ⟨wf_small ?_ ?_, wf_small ?_ ?_, wf_small ?_ ?_, wf_small ?_ ?_, wf_small ?_ ?_, wf_small ?_ ?_⟩ <;> simp only <;> omega
end Px4
namespace Pr12
open Go.RowKit
open Nd0 Nd3 Ap2 Tm0 Tx0 Tx1 Ss0 Ss1 Tb0 Tb1 Px0 Px1 Px4 Pr1 Pr2 Pr3 Mp0 Pr4 Pr5 Pr8 Pr9 Pr11
open Ss5 (Kb)
open Ws1 (ret_int ret_bool)
theorem nx_at {S : ByteArray} {p : Nat} {c : UInt8} (hc : c ≠ 0) : nx (tl S) p = c ↔ (tl S)[p]? = some c := by
 by_cases h : p < S.size
 ·rw [nx_in h, tl_at h]; simp
 ·rw [nx_off (by omega), tl_off (by omega)]
  constructor
  ·intro e; exact absurd e.symm hc
  ·intro e; cases e
structure St1 (w w1 : World) (B b : Nat) (S : ByteArray) (p : Nat) (t : List Nd) (bm : Nat) (F : Nat -> Prop) (bn : Nat) (n : Nd) : Prop where
 pr : PR w1 B b S p t bm (fun k => F k \/ k = bn)
 nw : NW w1 bn n
 kf : Kept (fun k => ¬ F k) w w1
theorem St1.kb {w w1 w2 : World} {B b : Nat} {S : ByteArray} {p q : Nat} {t : List Nd} {bm : Nat} {F : Nat -> Prop} {bn : Nat} {n : Nd} (h : St1 w w1 B b S p t bm F bn n) {v : Value} (hv : RB w1 b S p v bm) (h2 : RB w2 b S q v bm) (hq : q <= S.size) (k : Kb b w1 w2) : St1 w w2 B b S q t bm F bn n :=
 ⟨PR.moved h.pr hv h2 hq k, h.nw.kept k (fun e => h.pr.fb (.inr (show b = bn from (e : bn = b).symm))), keptF_new h.kf k (fun i hi => .inl (by have e : i = b := hi; rw [e]; exact fun hf => h.pr.fb (.inl hf)))⟩
theorem St1.kbF {w w1 w2 : World} {B b : Nat} {S : ByteArray} {p : Nat} {t : List Nd} {bm : Nat} {F : Nat -> Prop} {bn : Nat} {n : Nd} (h : St1 w w1 B b S p t bm F bn n) (k : Kb b w1 w2) : Kept (fun k => ¬ F k) w w2 :=
 keptF_new h.kf k (fun i hi => .inl (by have e : i = b := hi; rw [e]; exact fun hf => h.pr.fb (.inl hf)))
theorem St1.below {w w1 w2 : World} {B b : Nat} {S : ByteArray} {p : Nat} {t : List Nd} {bm : Nat} {F : Nat -> Prop} {bn : Nat} {n : Nd} (h : St1 w w1 B b S p t bm F bn n) (k : Below w1.heap.size w1 w2) : St1 w w2 B b S p t bm F bn n :=
 ⟨h.pr.below k, h.nw.kept (D := fun _ => False) (Kept.ofBelow k) (fun e => e), keptF_new (D := fun _ => False) h.kf (Kept.ofBelow k) (fun i hi => by cases hi)⟩
theorem St1.set {w w1 w2 : World} {B b : Nat} {S : ByteArray} {p : Nat} {t : List Nd} {bm : Nat} {F : Nat -> Prop} {bn : Nat} {n m : Nd} (h : St1 w w1 B b S p t bm F bn n) (k : Kept (fun i => i = bn) w1 w2) (hn : NW w2 bn m) (hb : w.heap.size <= bn) : St1 w w2 B b S p t bm F bn m :=
 ⟨PR.kept h.pr k (fun i hi => .inr hi), hn, keptF_new h.kf k (fun i hi => .inr (by have e : i = bn := hi; omega))⟩
theorem St1.parts {w w1 w2 : World} {B b : Nat} {S : ByteArray} {p q : Nat} {t u : List Nd} {bm : Nat} {F : Nat -> Prop} {bn : Nat} {n : Nd} (h : St1 w w1 B b S p t bm F bn n) (h2 : PR w2 B b S q u bm (fun k => F k \/ k = bn)) (k : Kept (fun i => ¬ (F i \/ i = bn)) w1 w2) : St1 w w2 B b S q u bm F bn n :=
 ⟨h2, h.nw.kept k (fun e => e (.inr rfl)), keptF_new h.kf k (fun i hi => .inl (fun hf => hi (.inl hf)))⟩
theorem St1.partsF {w w1 w2 : World} {B b : Nat} {S : ByteArray} {p : Nat} {t : List Nd} {bm : Nat} {F : Nat -> Prop} {bn : Nat} {n : Nd} (h : St1 w w1 B b S p t bm F bn n) (k : Kept (fun i => ¬ (F i \/ i = bn)) w1 w2) : Kept (fun k => ¬ F k) w w2 :=
 keptF_new h.kf k (fun i hi => .inl (fun hf => hi (.inl hf)))
theorem St1.new {w : World} {B b : Nat} {S : ByteArray} {p : Nat} {t : List Nd} {bm : Nat} {F : Nat -> Prop} (h : PR w B b S p t bm F) (T bn : Nat) (hb : bn = w.heap.size) : St1 w (w.alloc (.cells #[.int .i64 0, .int .i64 0, .int .i64 0, .int .i64 0, .int .i64 0, .int .i64 0] T)) B b S p t bm F bn ⟨0, 0, 0, 0, 0, 0⟩ := by
 refine ⟨PR.widen h ((Below.refl _ _).alloc (Nat.le_refl _) _) (fun i hi => ?_), NW.new w ⟨0, 0, 0, 0, 0, 0⟩ T bn hb, (Kept.refl _ _).alloc _⟩
 rcases hi with e | e
 ·exact .inl e
 ·exact .inr ⟨by omega, by rw [e, hb]; simp⟩
theorem nw_node {w : World} {b : Nat} {n : Nd} (h : NW w b n) : NodeAt w b 0 n := ⟨h.c0, h.c1, h.c2, h.c3, h.c4, h.c5⟩
theorem nw_ofNode {w w' : World} {b : Nat} {n m : Nd} (h : NW w b n) : NW (setNode w b 0 m) b m := by
 have hk := setNode_same (n := m) (nw_node h)
 refine ⟨hk.c0, hk.c1, hk.c2, hk.c3, hk.c4, hk.c5, ?_, ?_, ?_, ?_, ?_, ?_⟩
 ·unfold setNode; simpa using h.f0
 ·unfold setNode; simpa using h.f1
 ·unfold setNode; simpa using h.f2
 ·unfold setNode; simpa using h.f3
 ·unfold setNode; simpa using h.f4
 ·unfold setNode; simpa using h.f5
theorem iNodeR (f : Nat) (hI : INode f) : INode (f + 1) := by
 intro w B b S p t bm F h hlow hg hs hfu
 have HBw : Hid (B <= w.heap.size) := by obtain ⟨v, r1, _, _⟩ := h.ex; exact Nat.le_trans h.bB (Nat.le_of_lt r1.lt)
 have HI : Hid (INode f) := hI
 have HG : Hid (∀ w', Kept (fun k => ¬ F k) w w' -> TabR w') := fun w' k => hg w' (below_of k hlow HBw.out)
 have HG0 : Hid (∀ w', Below B w w' -> TabR w') := hg
 have HLOW : Hid (∀ k, k < B -> F k) := hlow
 obtain ⟨w0, hw0⟩ : ∃ w0 : World, w0 = w.alloc (.cells #[.int .i64 0, .int .i64 0, .int .i64 0, .int .i64 0, .int .i64 0, .int .i64 0] 33) := ⟨_, rfl⟩
 obtain ⟨bn, hbn⟩ : ∃ bn : Nat, bn = w.heap.size := ⟨_, rfl⟩
 have HS0 : Hid (St1 w w0 B b S p t bm F bn ⟨0, 0, 0, 0, 0, 0⟩) := by show St1 _ _ _ _ _ _ _ _ _ _ _; rw [hw0]; exact St1.new h _ bn hbn
 have HBN : Hid (w.heap.size <= bn) := by show _ <= _; omega
 have HW0 : Hid (w0 = w.alloc (.cells #[.int .i64 0, .int .i64 0, .int .i64 0, .int .i64 0, .int .i64 0, .int .i64 0] 33)) := hw0
 have hps : p <= S.size := h.pS
 obtain ⟨v, hrb, _, _⟩ := h.ex
 have c1 := hrb.c1
 obtain ⟨v0, hrb0, _, _⟩ := HS0.out.pr.ex
 have HRB0 : Hid (RB w0 b S p v0 bm) := hrb0
 have k1 := hrb0.c1
 clear hrb hrb0 h hg hlow hI hw0
 have hs1 : S.size <= 100000 := by omega
 go_enter Tryz.func46, Tryz.ntmps46
 go_wp2_with fail
 rw [<- HW0.out, <- hbn]
 clear hbn c1 k1
 refine (iNext _ b S p v0 bm HRB0.out hs1 hps).mono ?_
 rintro e w1 ⟨rfl, hb1⟩
 have HS1 : Hid (St1 w w1 B b S p t bm F bn ⟨0, 0, 0, 0, 0, 0⟩) := HS0.out.below hb1
 have HRB1 : Hid (RB w1 b S p v0 bm) := HRB0.out.below hb1
 clear hb1
 by_cases h35 : nx (tl S) p = 35
 ·have hq35 : (((nx (tl S) p).toNat : Int) == 35) = true := by rw [h35]; rfl
  have HU : Hid (pNode (tl S) (f + 1) (p, t) = (pPair (tl S) 35 p p).bind fun y => pPut p y.2 t ⟨0, y.1.1, y.1.2, 0, 0, 0⟩) := by
   show _ = _
   simp only [pNode]
   rw [if_pos ((nx_at (by decide)).1 h35)]
  clear h35
  obtain ⟨w2, hw2⟩ : ∃ w2 : World, w2 = w1.setCell ⟨bn, 0, none⟩ (.int .i64 0) := ⟨_, rfl⟩
  have HS2 : Hid (St1 w w2 B b S p t bm F bn ⟨0, 0, 0, 0, 0, 0⟩) := by
   show St1 _ _ _ _ _ _ _ _ _ _ _
   refine HS1.out.set ?_ ?_ HBN.out
   ·rw [hw2]; exact (Kept.refl (fun i => i = bn) _).setCell (p := ⟨bn, 0, none⟩) rfl _
   ·rw [hw2]; exact HS1.out.nw.setOp _
  have HW2 : Hid (w2 = w1.setCell ⟨bn, 0, none⟩ (.int .i64 0)) := hw2
  have r0 := HS1.out.nw.c0
  have q0 := HS1.out.nw.f0
  obtain ⟨v2, hrb2, _, _⟩ := HS2.out.pr.ex
  have HRB2 : Hid (RB w2 b S p v2 bm) := hrb2
  clear hw2 hrb2
  go_wp2_with fail
  rw [<- HW2.out]
  clear r0 q0
  refine (iPairR _ b S p v2 bm 35 p (fun w' k => HG.out _ (HS2.out.kbF k)) HRB2.out hs1 hps).mono ?_
  rintro e w3 ⟨ho3, hk3⟩
  cases h3 : pPair (tl S) 35 p p with
  | error x =>
    obtain rfl := ho3.2 x h3
    have HP : Hid (pNode (tl S) (f + 1) (p, t) = .error x) := by show _ = _; rw [HU.out, h3]; rfl
    have HKX : Hid (Kept (fun k => ¬ F k) w w3) := HS2.out.kbF hk3
    clear ho3 h3 hk3
    go_wp2
    exact ⟨rfl, Out.error HP.out rfl, HKX.out⟩
  | ok y =>
    obtain ⟨rfl, hr3, hp3⟩ := ho3.1 y h3
    have HS3 : Hid (St1 w w3 B b S y.2 t bm F bn ⟨0, 0, 0, 0, 0, 0⟩) := HS2.out.kb HRB2.out hr3 hp3 hk3
    have HU3 : Hid (pNode (tl S) (f + 1) (p, t) = pPut p y.2 t ⟨0, (y.1.1 : Int), (y.1.2 : Int), 0, 0, 0⟩) := by show _ = _; rw [HU.out, h3]; rfl
    have HSM : Hid (y.1.1 < 1000000000 /\ y.1.2 < 1000000000) := pair_small h3
    clear ho3 h3 hk3 hr3
    obtain ⟨w4, hw4⟩ : ∃ w4 : World, w4 = (w3.setCell ⟨bn, 1, none⟩ (.int .i64 (y.1.1 : Int))).setCell ⟨bn, 2, none⟩ (.int .i64 (y.1.2 : Int)) := ⟨_, rfl⟩
    have HS4 : Hid (St1 w w4 B b S y.2 t bm F bn ⟨0, (y.1.1 : Int), (y.1.2 : Int), 0, 0, 0⟩) := by
     show St1 _ _ _ _ _ _ _ _ _ _ _
     refine HS3.out.set ?_ ?_ HBN.out
     ·rw [hw4]; exact ((Kept.refl (fun i => i = bn) _).setCell (p := ⟨bn, 1, none⟩) rfl _).setCell (p := ⟨bn, 2, none⟩) rfl _
     ·rw [hw4]; exact (HS3.out.nw.setW _).setK _
    have HW4 : Hid (w4 = (w3.setCell ⟨bn, 1, none⟩ (.int .i64 (y.1.1 : Int))).setCell ⟨bn, 2, none⟩ (.int .i64 (y.1.2 : Int))) := hw4
    have r0 := HS3.out.nw.c0
    have r1 := HS3.out.nw.c1
    have q1 := HS3.out.nw.f1
    have r2 := HS3.out.nw.c2
    have q2 := HS3.out.nw.f2
    have r3 := HS3.out.nw.c3
    have r4 := HS3.out.nw.c4
    have r5 := HS3.out.nw.c5
    clear hw4
    go_wp2_with fail
    rw [<- HW4.out]
    clear r0 r1 q1 r2 q2 r3 r4 r5
    refine (iPut _ B b S y.2 t bm (fun k => F k \/ k = bn) ⟨0, (y.1.1 : Int), (y.1.2 : Int), 0, 0, 0⟩ p HS4.out.pr (wf_leaf _ _ _ (.inl rfl) HSM.out.1 HSM.out.2)).mono ?_
    rintro e w5 ⟨ho5, hk5⟩
    have HKF : Hid (Kept (fun k => ¬ F k) w w5) := HS4.out.partsF hk5
    clear hk5
    cases h5 : putL t ⟨0, (y.1.1 : Int), (y.1.2 : Int), 0, 0, 0⟩ p with
    | error x =>
      obtain rfl := ho5.2 x h5
      have HP : Hid (pNode (tl S) (f + 1) (p, t) = .error x) := by show _ = _; rw [HU3.out]; unfold pPut; rw [h5]; rfl
      clear ho5 h5
      go_wp2
      exact ⟨rfl, Out.error HP.out rfl, HKF.out⟩
    | ok z =>
      obtain ⟨rfl, hpr5⟩ := ho5.1 z h5
      have HP : Hid (pNode (tl S) (f + 1) (p, t) = .ok (z.2, (y.2, z.1))) := by show _ = _; rw [HU3.out]; unfold pPut; rw [h5]; rfl
      have HPF : Hid (PR w5 B b S y.2 z.1 bm F) := PR.narrow (w0 := w5) hpr5 (fun i hi => .inl hi)
      clear ho5 h5 hpr5
      go_wp2
      go_ret
      exact ⟨Out.ok HP.out ⟨rfl, HPF.out⟩, HKF.out⟩
 have hq35 : (((nx (tl S) p).toNat : Int) == 35) = false := by
  rw [beq_eq_false_iff_ne]
  intro e
  exact h35 (UInt8.toNat_inj.1 (by have : (35 : UInt8).toNat = 35 := rfl; omega))
 by_cases h118 : nx (tl S) p = 118
 ·have hq118 : (((nx (tl S) p).toNat : Int) == 118) = true := by rw [h118]; rfl
  have HU : Hid (pNode (tl S) (f + 1) (p, t) = (pPair (tl S) 118 p p).bind fun y => pPut p y.2 t ⟨1, y.1.2, y.1.1, 0, 0, 0⟩) := by
   show _ = _
   simp only [pNode]
   rw [if_neg (fun e => h35 ((nx_at (by decide)).2 e)), if_pos ((nx_at (by decide)).1 h118)]
  clear h35 h118
  obtain ⟨w2, hw2⟩ : ∃ w2 : World, w2 = w1.setCell ⟨bn, 0, none⟩ (.int .i64 1) := ⟨_, rfl⟩
  have HS2 : Hid (St1 w w2 B b S p t bm F bn ⟨1, 0, 0, 0, 0, 0⟩) := by
   show St1 _ _ _ _ _ _ _ _ _ _ _
   refine HS1.out.set ?_ ?_ HBN.out
   ·rw [hw2]; exact (Kept.refl (fun i => i = bn) _).setCell (p := ⟨bn, 0, none⟩) rfl _
   ·rw [hw2]; exact HS1.out.nw.setOp _
  have HW2 : Hid (w2 = w1.setCell ⟨bn, 0, none⟩ (.int .i64 1)) := hw2
  have r0 := HS1.out.nw.c0
  have q0 := HS1.out.nw.f0
  obtain ⟨v2, hrb2, _, _⟩ := HS2.out.pr.ex
  have HRB2 : Hid (RB w2 b S p v2 bm) := hrb2
  clear hw2 hrb2
  go_wp2_with fail
  rw [<- HW2.out]
  clear r0 q0
  refine (iPairR _ b S p v2 bm 118 p (fun w' k => HG.out _ (HS2.out.kbF k)) HRB2.out hs1 hps).mono ?_
  rintro e w3 ⟨ho3, hk3⟩
  cases h3 : pPair (tl S) 118 p p with
  | error x =>
    obtain rfl := ho3.2 x h3
    have HP : Hid (pNode (tl S) (f + 1) (p, t) = .error x) := by show _ = _; rw [HU.out, h3]; rfl
    have HKX : Hid (Kept (fun k => ¬ F k) w w3) := HS2.out.kbF hk3
    clear ho3 h3 hk3
    go_wp2
    exact ⟨rfl, Out.error HP.out rfl, HKX.out⟩
  | ok y =>
    obtain ⟨rfl, hr3, hp3⟩ := ho3.1 y h3
    have HS3 : Hid (St1 w w3 B b S y.2 t bm F bn ⟨1, 0, 0, 0, 0, 0⟩) := HS2.out.kb HRB2.out hr3 hp3 hk3
    have HU3 : Hid (pNode (tl S) (f + 1) (p, t) = pPut p y.2 t ⟨1, (y.1.2 : Int), (y.1.1 : Int), 0, 0, 0⟩) := by show _ = _; rw [HU.out, h3]; rfl
    have HSM : Hid (y.1.1 < 1000000000 /\ y.1.2 < 1000000000) := pair_small h3
    clear ho3 h3 hk3 hr3
    obtain ⟨w4, hw4⟩ : ∃ w4 : World, w4 = (w3.setCell ⟨bn, 2, none⟩ (.int .i64 (y.1.1 : Int))).setCell ⟨bn, 1, none⟩ (.int .i64 (y.1.2 : Int)) := ⟨_, rfl⟩
    have HS4 : Hid (St1 w w4 B b S y.2 t bm F bn ⟨1, (y.1.2 : Int), (y.1.1 : Int), 0, 0, 0⟩) := by
     show St1 _ _ _ _ _ _ _ _ _ _ _
     refine HS3.out.set ?_ ?_ HBN.out
     ·rw [hw4]; exact ((Kept.refl (fun i => i = bn) _).setCell (p := ⟨bn, 2, none⟩) rfl _).setCell (p := ⟨bn, 1, none⟩) rfl _
     ·rw [hw4]; exact (HS3.out.nw.setK _).setW _
    have HW4 : Hid (w4 = (w3.setCell ⟨bn, 2, none⟩ (.int .i64 (y.1.1 : Int))).setCell ⟨bn, 1, none⟩ (.int .i64 (y.1.2 : Int))) := hw4
    have r0 := HS3.out.nw.c0
    have r1 := HS3.out.nw.c1
    have q1 := HS3.out.nw.f1
    have r2 := HS3.out.nw.c2
    have q2 := HS3.out.nw.f2
    have r3 := HS3.out.nw.c3
    have r4 := HS3.out.nw.c4
    have r5 := HS3.out.nw.c5
    clear hw4
    go_wp2_with fail
    rw [<- HW4.out]
    clear r0 r1 q1 r2 q2 r3 r4 r5
    refine (iPut _ B b S y.2 t bm (fun k => F k \/ k = bn) ⟨1, (y.1.2 : Int), (y.1.1 : Int), 0, 0, 0⟩ p HS4.out.pr (wf_leaf _ _ _ (.inr rfl) HSM.out.2 HSM.out.1)).mono ?_
    rintro e w5 ⟨ho5, hk5⟩
    have HKF : Hid (Kept (fun k => ¬ F k) w w5) := HS4.out.partsF hk5
    clear hk5
    cases h5 : putL t ⟨1, (y.1.2 : Int), (y.1.1 : Int), 0, 0, 0⟩ p with
    | error x =>
      obtain rfl := ho5.2 x h5
      have HP : Hid (pNode (tl S) (f + 1) (p, t) = .error x) := by show _ = _; rw [HU3.out]; unfold pPut; rw [h5]; rfl
      clear ho5 h5
      go_wp2
      exact ⟨rfl, Out.error HP.out rfl, HKF.out⟩
    | ok z =>
      obtain ⟨rfl, hpr5⟩ := ho5.1 z h5
      have HP : Hid (pNode (tl S) (f + 1) (p, t) = .ok (z.2, (y.2, z.1))) := by show _ = _; rw [HU3.out]; unfold pPut; rw [h5]; rfl
      have HPF : Hid (PR w5 B b S y.2 z.1 bm F) := PR.narrow (w0 := w5) hpr5 (fun i hi => .inl hi)
      clear ho5 h5 hpr5
      go_wp2
      go_ret
      exact ⟨Out.ok HP.out ⟨rfl, HPF.out⟩, HKF.out⟩
 have hq118 : (((nx (tl S) p).toNat : Int) == 118) = false := by
  rw [beq_eq_false_iff_ne]
  intro e
  exact h118 (UInt8.toNat_inj.1 (by have : (118 : UInt8).toNat = 118 := rfl; omega))
 have HU : Hid (pNode (tl S) (f + 1) (p, t) = (pOp (tl S) p p).bind fun o => (pNums (tl S) o.1 p o.2).bind fun y => (pParts (tl S) (pNode (tl S) f) y.1 p (y.2, t)).bind fun z => pPut p z.2.1 z.2.2 { z.1 with w := pWid z.2.2 z.1 }) := by
  show _ = _
  conv => lhs; unfold pNode
  rw [if_neg (fun e => h35 ((nx_at (by decide)).2 e)), if_neg (fun e => h118 ((nx_at (by decide)).2 e))]
 clear h35 h118
 go_wp2_with fail
 refine (iOperator _ b S p v0 bm p (fun w' k => HG.out _ (HS1.out.kbF k)) HRB1.out hs1 hps).mono ?_
 rintro e w2 ⟨ho2, hk2⟩
 cases h2 : pOp (tl S) p p with
 | error x =>
   obtain rfl := ho2.2 x h2
   have HP : Hid (pNode (tl S) (f + 1) (p, t) = .error x) := by show _ = _; rw [HU.out, h2]; rfl
   have HKX : Hid (Kept (fun k => ¬ F k) w w2) := HS1.out.kbF hk2
   clear ho2 h2 hk2
   go_wp2
   exact ⟨rfl, Out.error HP.out rfl, HKX.out⟩
 | ok o =>
 obtain ⟨rfl, hr2, hp2⟩ := ho2.1 o h2
 have HS2 : Hid (St1 w w2 B b S o.2 t bm F bn ⟨0, 0, 0, 0, 0, 0⟩) := HS1.out.kb HRB1.out hr2 hp2 hk2
 have HU2 : Hid (pNode (tl S) (f + 1) (p, t) = (pNums (tl S) o.1 p o.2).bind fun y => (pParts (tl S) (pNode (tl S) f) y.1 p (y.2, t)).bind fun z => pPut p z.2.1 z.2.2 { z.1 with w := pWid z.2.2 z.1 }) := by show _ = _; rw [HU.out, h2]; rfl
 have HO : Hid (2 <= o.1 /\ o.1 <= 20 /\ p < o.2) := ⟨(op_le h2).1, (op_le h2).2, op_mono h2⟩
 clear ho2 h2 hk2 hr2
 obtain ⟨w3, hw3⟩ : ∃ w3 : World, w3 = w2.setCell ⟨bn, 0, none⟩ (.int .i64 (o.1 : Int)) := ⟨_, rfl⟩
 have HS3 : Hid (St1 w w3 B b S o.2 t bm F bn ⟨(o.1 : Int), 0, 0, 0, 0, 0⟩) := by
  show St1 _ _ _ _ _ _ _ _ _ _ _
  refine HS2.out.set ?_ ?_ HBN.out
  ·rw [hw3]; exact (Kept.refl (fun i => i = bn) _).setCell (p := ⟨bn, 0, none⟩) rfl _
  ·rw [hw3]; exact HS2.out.nw.setOp _
 have HW3 : Hid (w3 = w2.setCell ⟨bn, 0, none⟩ (.int .i64 (o.1 : Int))) := hw3
 have r0 := HS2.out.nw.c0
 have q0 := HS2.out.nw.f0
 have r1 := HS2.out.nw.c1
 have r2 := HS2.out.nw.c2
 have r3 := HS2.out.nw.c3
 have r4 := HS2.out.nw.c4
 have r5 := HS2.out.nw.c5
 obtain ⟨v3, hrb3, _, _⟩ := HS3.out.pr.ex
 have HRB3 : Hid (RB w3 b S o.2 v3 bm) := hrb3
 clear hw3 hrb3
 go_wp2_with fail
 rw [<- HW3.out]
 clear r0 q0 r1 r2 r3 r4 r5
 refine (iNums _ b S o.2 v3 bm o.1 p (fun w' k => HG.out _ (HS3.out.kbF k)) HRB3.out hs1 hp2).mono ?_
 rintro e w4 ⟨ho4, hk4⟩
 cases h4 : pNums (tl S) o.1 p o.2 with
 | error x =>
   obtain rfl := ho4.2 x h4
   have HP : Hid (pNode (tl S) (f + 1) (p, t) = .error x) := by show _ = _; rw [HU2.out, h4]; rfl
   have HKX : Hid (Kept (fun k => ¬ F k) w w4) := HS3.out.kbF hk4
   clear ho4 h4 hk4
   go_wp2
   exact ⟨rfl, Out.error HP.out rfl, HKX.out⟩
 | ok y =>
 obtain ⟨rfl, hr4, hp4⟩ := ho4.1 y h4
 have HS4 : Hid (St1 w w4 B b S y.2 t bm F bn ⟨(o.1 : Int), 0, 0, 0, 0, 0⟩) := HS3.out.kb HRB3.out hr4 hp4 hk4
 have HU4 : Hid (pNode (tl S) (f + 1) (p, t) = (pParts (tl S) (pNode (tl S) f) y.1 p (y.2, t)).bind fun z => pPut p z.2.1 z.2.2 { z.1 with w := pWid z.2.2 z.1 }) := by show _ = _; rw [HU2.out, h4]; rfl
 have HNS : Hid (y.1.op = (o.1 : Int) /\ Sm y.1) := nums_small h4
 have HOY : Hid (2 <= y.1.op /\ y.1.op <= 20) := by have := (nums_small h4).1; have := HO.out; exact ⟨by omega, by omega⟩
 have HFU : Hid (S.size - y.2 <= f) := by show _ <= _; have := nums_mono h4; have := HO.out; omega
 clear ho4 h4 hk4 hr4
 go_wp2_with fail
 refine (iPartsR f HI.out _ B b S y.2 t bm (fun k => F k \/ k = bn) y.1 p HS4.out.pr (fun k hk => .inl (HLOW.out k hk)) (fun w' k => HG0.out _ ((below_of HS4.out.kf HLOW.out HBw.out).trans k)) hs HFU.out HOY.out).mono ?_
 rintro e w5 ⟨ho5, hk5⟩
 cases h5 : pParts (tl S) (pNode (tl S) f) y.1 p (y.2, t) with
 | error x =>
   obtain rfl := ho5.2 x h5
   have HP : Hid (pNode (tl S) (f + 1) (p, t) = .error x) := by show _ = _; rw [HU4.out, h5]; rfl
   have HKX : Hid (Kept (fun k => ¬ F k) w w5) := HS4.out.partsF hk5
   clear ho5 h5 hk5
   go_wp2
   exact ⟨rfl, Out.error HP.out rfl, HKX.out⟩
 | ok z =>
 obtain ⟨rfl, hpr5⟩ := ho5.1 z h5
 have HS5 : Hid (St1 w w5 B b S z.2.1 z.2.2 bm F bn ⟨(o.1 : Int), 0, 0, 0, 0, 0⟩) := HS4.out.parts hpr5 hk5
 have HU5 : Hid (pNode (tl S) (f + 1) (p, t) = pPut p z.2.1 z.2.2 { z.1 with w := pWid z.2.2 z.1 }) := by show _ = _; rw [HU4.out, h5]; rfl
 have HL5 : Hid (z.2.2.length <= 80) := hpr5.fit.1
 have HPN : Hid (Pn y.1 z.1 z.2.2.length) := parts_read h5 HOY.out HNS.out.2 HL5.out
 have HWD : Hid (∀ j, j < z.2.2.length -> 1 <= (nth z.2.2 j).w /\ (nth z.2.2 j).w <= 8) := fun j hj => node_width (hpr5.fit.2 j hj)
 clear ho5 h5 hk5 hpr5
 obtain ⟨w6, hw6⟩ : ∃ w6 : World, w6 = setNode w5 bn 0 z.1 := ⟨_, rfl⟩
 have HS6 : Hid (St1 w w6 B b S z.2.1 z.2.2 bm F bn z.1) := by
  show St1 _ _ _ _ _ _ _ _ _ _ _
  refine HS5.out.set ?_ ?_ HBN.out
  ·rw [hw6]; exact setNode_keptS rfl (Kept.refl _ _)
  ·rw [hw6]; exact nw_ofNode (w' := w5) HS5.out.nw
 have HW6 : Hid (w6 = setNode w5 bn 0 z.1) := hw6
 have ⟨r0, r1, r2, r3, r4, r5, q0, q1, q2, q3, q4, q5⟩ := HS5.out.nw
 obtain ⟨v6, hrb6, hown6, _⟩ := HS6.out.pr.ex
 obtain ⟨a6, c6, rfl, hwn6⟩ := hown6.form
 have HRB6 : Hid (RB w6 b S z.2.1 (.slice a6 z.2.2.length c6) bm) := hrb6
 have HN6 : Hid (Nodes w6 a6 z.2.2) := hwn6.nodes
 clear hw6 hrb6 hown6 hwn6
 go_wp2_with fail
 have hWF := HW6.out
 simp only [setNode, Nat.zero_add] at hWF
 rw [<- hWF]
 clear hWF r0 r1 r2 r3 r4 r5 q0 q1 q2 q3 q4 q5
 refine (iWidth _ b S z.2.1 a6 c6 bm z.2.2 z.1 HRB6.out HN6.out HL5.out HWD.out HPN.out.ha HPN.out.hb).mono ?_
 rintro e w7 ⟨rfl, hb7⟩
 have HS7 : Hid (St1 w w7 B b S z.2.1 z.2.2 bm F bn z.1) := HS6.out.below hb7
 clear hb7
 obtain ⟨w8, hw8⟩ : ∃ w8 : World, w8 = w7.setCell ⟨bn, 1, none⟩ (.int .i64 (pWid z.2.2 z.1)) := ⟨_, rfl⟩
 have HS8 : Hid (St1 w w8 B b S z.2.1 z.2.2 bm F bn { z.1 with w := pWid z.2.2 z.1 }) := by
  show St1 _ _ _ _ _ _ _ _ _ _ _
  refine HS7.out.set ?_ ?_ HBN.out
  ·rw [hw8]; exact (Kept.refl (fun i => i = bn) _).setCell (p := ⟨bn, 1, none⟩) rfl _
  ·rw [hw8]; exact HS7.out.nw.setW _
 have HW8 : Hid (w8 = w7.setCell ⟨bn, 1, none⟩ (.int .i64 (pWid z.2.2 z.1))) := hw8
 have r0 := HS7.out.nw.c0
 have r1 := HS7.out.nw.c1
 have q1 := HS7.out.nw.f1
 have r2 := HS7.out.nw.c2
 have r3 := HS7.out.nw.c3
 have r4 := HS7.out.nw.c4
 have r5 := HS7.out.nw.c5
 clear hw8
 go_wp2_with fail
 rw [<- HW8.out]
 clear r0 r1 q1 r2 r3 r4 r5
 refine (iPut _ B b S z.2.1 z.2.2 bm (fun k => F k \/ k = bn) { z.1 with w := pWid z.2.2 z.1 } p HS8.out.pr (wf_node HWD.out HL5.out HOY.out HPN.out HNS.out.2)).mono ?_
 rintro e w9 ⟨ho9, hk9⟩
 have HKF : Hid (Kept (fun k => ¬ F k) w w9) := HS8.out.partsF hk9
 clear hk9
 cases h9 : putL z.2.2 { z.1 with w := pWid z.2.2 z.1 } p with
 | error x =>
   obtain rfl := ho9.2 x h9
   have HP : Hid (pNode (tl S) (f + 1) (p, t) = .error x) := by show _ = _; rw [HU5.out]; unfold pPut; rw [h9]; rfl
   clear ho9 h9
   go_wp2
   exact ⟨rfl, Out.error HP.out rfl, HKF.out⟩
 | ok u =>
   obtain ⟨rfl, hpr9⟩ := ho9.1 u h9
   have HP : Hid (pNode (tl S) (f + 1) (p, t) = .ok (u.2, (z.2.1, u.1))) := by show _ = _; rw [HU5.out]; unfold pPut; rw [h9]; rfl
   have HPF : Hid (PR w9 B b S z.2.1 u.1 bm F) := PR.narrow (w0 := w9) hpr9 (fun i hi => .inl hi)
   clear ho9 h9 hpr9
   go_wp2
   go_ret
   exact ⟨Out.ok HP.out ⟨rfl, HPF.out⟩, HKF.out⟩
end Pr12
end Go.Proofs.YtiaimhgfimhepaaGreatDoor

/- Small texts of mine, one behind the other. -/
import Derived.Test.YtbnjndloeflgiaaGreatRows
import Derived.Deep.AppendLies
import Derived.OwnWalk
import Derived.Laws.IdiomStrings
import Derived.Deep.RegionHeld
import Derived.Test.YtbnjndloeflgiaaGreatPkTA30
import Derived.Test.YtbnjndloeflgiaaGreatPkTA16
import Derived.Test.YtbnjndloeflgiaaGreatPkTA32
import Derived.Test.YtbnjndloeflgiaaGreatPkTA0
import Derived.Test.YtbnjndloeflgiaaGreatPkTA28
import Derived.Test.YtbnjndloeflgiaaGreatPkTA20
/- The walk of the model's HoldsFront. -/
namespace Go.Proofs.YtbnjndloeflgiaaGreat.Fm4
open Go.RowKit
open Nd0 Qa0 Pl1 Tm0 Tm1 Tm6 Tr0 Rw0 Rw1 Vl1 Vm0 Kp1 Fr0 Fr1 Fr4
open Fm1 (quAt sBitsQ bitsQ bitsQ_few)
open Fm2 (sFrontOk sZerosW)
open Sv4 (sAt)
open Wd1 (spow)
open Ws1 (ret_int ret_bool)
set_option linter.unusedVariables false

theorem env_set {w : World} {g : Nat} {e : List Int} (h : Env w g e) (he : e.length = 8) {v : Nat} (hv : v < 8) (x : Int) : Env (w.setCell ⟨g, v, none⟩ (.int .i64 x)) g (e.set v x) := row_set_int h he hv x

end Go.Proofs.YtbnjndloeflgiaaGreat.Fm4

/- Lists of bytes that are appended to and written: the law at the walk, and how they are read. -/
namespace Go.Proofs.YtbnjndloeflgiaaGreat.Ap9
open Go.RowKit
open Nd0
set_option linter.unusedVariables false

def WBys (w : World) (B : Nat) (a : Option Addr) (l : List UInt8) : Prop :=
  l.length ≤ maxLen ∧ (l.length = 0 ∨ ∃ b o, a = some ⟨b, o, none⟩ ∧ B ≤ b ∧ ∀ i (h : i < l.length), w.cell? ⟨b, o + i, none⟩ = some (.int .u8 (l[i].toNat : Int)) ∧ w.frozen? ⟨b, o + i, none⟩ = false)

theorem infoByte : (Tryz.prog.info? 5).map (fun i => (i.zero, i.size, i.bytes)) = some (some (.int .u8 0), 1, 1) := by kernel_rfl

def Owu (w : World) (B : Nat) (v : Value) (l : List UInt8) : Prop := w.ownsRow B 5 1 v l.length (l.map fun x => .int .u8 (x.toNat : Int))

theorem Owu.form {w : World} {B : Nat} {v : Value} {l : List UInt8} (h : Owu w B v l) : ∃ a c, v = .slice a l.length c ∧ WBys w B a l := by
  obtain ⟨h1, h2⟩ := h
  rcases h2 with ⟨rfl, h0⟩ | ⟨g, cap, cur, rfl, hb, hg, hn, hm, hs, ht⟩
  · have : l = [] := List.eq_nil_of_length_eq_zero h0
    subst this
    exact ⟨none, 0, rfl, Nat.zero_le _, .inl rfl⟩
  · refine ⟨_, _, rfl, by omega, .inr ⟨g, 0, rfl, hb, fun i hi => ⟨?_, ?_⟩⟩⟩
    · rw [Nat.zero_add, cell_of_row w g i cur _ _ hg]
      have e : (cur.toList.take (l.length * 1))[i]? = some (.int .u8 (l[i].toNat : Int)) := by rw [ht]; simp [hi]
      rw [List.getElem?_take_of_lt (by omega)] at e
      simpa using e
    · rw [Nat.zero_add]
      simp [World.frozen?, hg]
theorem Owu.lit (w : World) (B : Nat) (hB : B ≤ w.heap.size) : Owu (w.alloc (.cells #[] 5)) B (.slice (some ⟨w.heap.size, 0, none⟩) 0 0) [] :=
  World.ownsRow_lit w #[] 0 hB (Nat.zero_le _) rfl
theorem Owu.lt {w : World} {B : Nat} {v : Value} {l : List UInt8} (h : Owu w B v l) : ∀ k, v.ownBlock = some k → B ≤ k ∧ k < w.heap.size := World.ownsRow.lt h
theorem Owu.kept {w w' : World} {B : Nat} {v : Value} {l : List UInt8} (h : Owu w B v l) {S : Nat → Prop} (k : Kept S w w') (hs : ∀ i, v.ownBlock = some i → ¬ S i) : Owu w' B v l := by
  refine ⟨h.1, ?_⟩
  rcases h.2 with hn | ⟨g, cap, cur, rfl, hb, hgg, rest⟩
  · exact .inl hn
  · refine .inr ⟨g, cap, cur, rfl, hb, ?_, rest⟩
    rw [k.block g (Array.getElem?_eq_some_iff.1 hgg).1 (hs g rfl)]
    exact hgg

theorem app_byte {ops : Array Oper} {rest : List Oper} {o : Oper} {a : Act} {Q : Exit → Act → World → Prop} (W : World) (hgd : o.guard = none) (s x : Operand)
    (ho : o.op = .call { callee := .builtin .append, args := #[s, x], argTypes := #[22, 22] })
    (B : Nat) (v : Value) (l : List UInt8) (y : UInt8) (z : Int) (hz0 : z = (y.toNat : Int)) (hs : a.eval s = v) (hx : a.eval x = .slice (some ⟨W.heap.size, 0, none⟩) 1 1)
    (hown : Owu W B v l) (hB : B ≤ W.heap.size) (hlen : l.length ≤ 1048576)
    (h : ∀ g cap w', Owu w' B (.slice (some ⟨g, 0, none⟩) (l.length + 1) cap) (l ++ [y]) → Kept (fun k => v.ownBlock = some k) W w' → (v.ownBlock = some g ∨ W.heap.size ≤ g) → wpList Tryz.prog ops Q rest (a.put o.dst (.slice (some ⟨g, 0, none⟩) (l.length + 1) cap)) w') :
    wpList Tryz.prog ops Q (o :: rest) a (W.alloc (.cells #[.int .u8 z] 5)) := by
  subst hz0
  obtain ⟨i, hi, hzz⟩ := Option.map_eq_some_iff.1 infoByte
  simp only [Prod.mk.injEq] at hzz
  obtain ⟨hz, hsz, hb⟩ := hzz
  refine wpList_append_lies (W.alloc (.cells #[.int .u8 (y.toNat : Int)] 5)) hgd s x 22 ho B 5 i (.int .u8 0) 1 1 Tryz.underlying22 hi hz hsz hb rfl (by omega) v l.length (l.map fun x => .int .u8 (x.toNat : Int)) hs (World.ownsRow.alloc hown _)
    ⟨W.heap.size, 0, none⟩ 1 1 [.int .u8 (y.toNat : Int)] hx rfl ?_ ?_ (by omega) (by unfold maxLen; omega) (by omega) (by simp; omega) _ rfl ?_
  · intro j u hu
    exact World.news_of_block (heap_alloc_new W _) j u hu
  · intro u hu
    simp at hu
    subst hu
    rfl
  · intro g cap w' h1 h2 h3 h4
    refine h g cap w' ?_ ?_ ?_
    · unfold Owu
      simpa using h1
    · have k1 : Kept (fun k => v.ownBlock = some k) W (W.alloc (.cells #[.int .u8 (y.toNat : Int)] 5)) := (Kept.refl _ W).alloc _
      exact k1.trans ⟨h2.os, h2.tape, h2.output, h2.size, fun k hk hn => h2.block k hk (fun e => hn e.symm)⟩
    · rcases h3 with h3 | h3
      · exact .inl h3
      · exact .inr (by rw [h3]; simp)

end Go.Proofs.YtbnjndloeflgiaaGreat.Ap9

/- The model's functions over tables: count, known, not. -/
namespace Go.Proofs.YtbnjndloeflgiaaGreat.Td1
open Go.RowKit
open Ta0 Ta1 Tc2 Tc5 Ap9
open Nd0 (Kept set_other set_same lt_of_cell)
open Ss0 (bs bs_size)
open Ss1 (tl tl_length tl_get tl_take tl_bs)
set_option linter.unusedVariables false

theorem sOk1 (n : Nat) (F : Nat → Bool) (w : World) (hn : n ≤ 12) :
    Calls Tryz.prog 43 #[tv (n : Int) (bs (tab n F))] w fun e w' => e = .returned (.bool true) ∧ Below w.heap.size w w' := by
  have := sTableOk (n : Int) (bs (tab n F)) w (by rw [bs_size, tab_length]; have := p12 hn; omega)
  rwa [tl_bs, tab_tok F hn] at this
structure Sg (S : ByteArray) (P : Nat) (F : Nat → Bool) : Prop where
  size : S.size = P
  at_ : ∀ k (h : k < S.size), (S[k].toNat : Int) = 48 + ((F k).toNat : Int)
theorem sg_tab (n : Nat) (F : Nat → Bool) : Sg (bs (tab n F)) (2 ^ n) F :=
  ⟨by rw [bs_size, tab_length], fun k h => by rw [bs_tab_get, sgn_toNat]; push_cast; rfl⟩

end Go.Proofs.YtbnjndloeflgiaaGreat.Td1

/- The model's functions over tables: not, both, half. -/
namespace Go.Proofs.YtbnjndloeflgiaaGreat.Td2
open Go.RowKit
open Ta0 Ta1 Tc2 Tc5 Ap9 Td1
open Nd0 (Kept set_other set_same lt_of_cell)
open Ss0 (bs bs_size)
open Ss1 (tl tl_length tl_get tl_take tl_bs)
set_option linter.unusedVariables false

theorem _root_.Go.Proofs.YtbnjndloeflgiaaGreat.Ap9.Owu.text {W : World} {B : Nat} {v : Value} {l : List UInt8} (h : Owu W B v l) (hl : 1 ≤ l.length) : (convert 22 9 v).run Tryz.prog W = .ok (.string (bs l)) W := by
  obtain ⟨a, c, rfl, hw⟩ := h.form
  rcases hw.2 with h0 | ⟨b, o, rfl, _, hc⟩
  · omega
  · exact run_convert_bytes_back (P := Tryz.prog) W 22 9 5 ⟨b, o, none⟩ c l Tryz.underlying22 Tryz.underlying5 Tryz.underlying9 (fun j hj => by rw [Addr.add_lit]; exact (hc j hj).1)

def tk (n : Nat) (G : Nat → Bool) (k : Nat) : List UInt8 := (tab n G).take k
theorem tk_len {n : Nat} {G : Nat → Bool} {k : Nat} (h : k ≤ 2 ^ n) : (tk n G k).length = k := by unfold tk; rw [List.length_take, tab_length]; omega
theorem tk_succ {n : Nat} {G : Nat → Bool} {k : Nat} (h : k < 2 ^ n) : tk n G (k + 1) = tk n G k ++ [sgn (G k)] := by
  unfold tk
  rw [List.take_succ_eq_append_getElem (by rw [tab_length]; exact h), tab_get]
theorem tk_all (n : Nat) (G : Nat → Bool) : tk n G (2 ^ n) = tab n G := by unfold tk; rw [List.take_of_length_le (by rw [tab_length]; omega)]

theorem finT {w W : World} {r : Nat} {a b : Value} (hr : Lay W r a b) (hb : Below w.heap.size w W) (hw : w.heap.size ≤ r) (x y : Value) :
    ∃ W', W' = (W.setCell ⟨r, 0, none⟩ x).setCell ⟨r, 1, none⟩ y ∧ Lay W' r x y ∧ Below w.heap.size w W' := by
  have K : Kept (fun b => b = r) W ((W.setCell ⟨r, 0, none⟩ x).setCell ⟨r, 1, none⟩ y) := kset (S := fun b => b = r) (kset (S := fun b => b = r) (Kept.refl (fun b => b = r) W) rfl _) rfl _
  exact ⟨_, rfl, hr.put x y, hb.trans (K.below (fun b hb => by omega) hb.size)⟩

end Go.Proofs.YtbnjndloeflgiaaGreat.Td2

/- The model's TableOf. -/
namespace Go.Proofs.YtbnjndloeflgiaaGreat.To3
open Go.RowKit
open Nd0 Qa0 Tm0 Tm1 Tm6 Tm8 Tr0 Rw0 Rw1 Kp1 Vl1 Vl2 Fr0 Fr1 To0 To0t
open Sv3 (SAt)
open Sv4 (sAt)
open Ta1 (tab tab_length p12 sgn)
open Tc2 (tv sPow)
open Tc5 (Lay)
open Td2 (tk tk_len tk_succ tk_all finT)
open Ap9 (Owu app_byte)
open Ss0 (bs)
open Fm1 (quAt sBitsQ bitsQ bitsQ_few)
open Fm2 (sFrontOk sZerosW)
open Fm4 (env_set)
set_option linter.unusedVariables false

theorem bits_of {q : List Qu} {n : Nat} (h : bqTo q q.length = some n) : bitsQ q = (n : Int) := by unfold bitsQ; rw [h]
structure OW (w : World) (r g : Nat) (M : List Int) (v : Value) (l : List UInt8) (W : World) : Prop where
  res : Lay W r (.int .i64 0) (.string ⟨#[]⟩)
  env : Env W g M
  own : Owu W (r + 1) v l
  off : ∀ k, v.ownBlock = some k → k ≠ g
  lo : r < g
  siz : g < W.heap.size
  bel : Below w.heap.size w W
theorem OW.next {w W W' : World} {r g : Nat} {M : List Int} {v v' : Value} {l l' : List UInt8} (h : OW w r g M v l W) (hw : w.heap.size ≤ r) (hk : Kept (fun k => v.ownBlock = some k) W W') (ho : Owu W' (r + 1) v' l') (hoff : ∀ k, v'.ownBlock = some k → k ≠ g) : OW w r g M v' l' W' :=
  ⟨h.res.kept hk (fun e => by have := (h.own.lt _ e).1; omega), h.env.kept hk (fun e => h.off _ e rfl), ho, hoff, h.lo, by have := hk.size; have := h.siz; omega, h.bel.trans (hk.below (fun b hb => by have := (h.own.lt _ hb).1; omega) h.bel.size)⟩
theorem OW.put {w W : World} {r g : Nat} {M : List Int} {v : Value} {l : List UInt8} (h : OW w r g M v l W) (hw : w.heap.size ≤ r) (hM : M.length = 8) {k : Nat} (hk : k < 8) (x : Int) : OW w r g (M.set k x) v l (W.setCell ⟨g, k, none⟩ (.int .i64 x)).drew := by
  have hK : Kept (fun b => b = g) W (W.setCell ⟨g, k, none⟩ (.int .i64 x)).drew := ((Kept.refl (fun b => b = g) W).setCell (p := ⟨g, k, none⟩) rfl _).drew
  have hlo := h.lo
  exact ⟨h.res.kept hK (fun e => by have e' : r = g := e; omega), Row.drew (env_set h.env hM hk x), h.own.kept hK (fun i hi e => h.off i hi e), h.off, hlo, by have := hK.size; have := h.siz; omega, h.bel.trans (hK.below (fun b (hb : b = g) => by omega) h.bel.size)⟩
theorem OW.call {w W W' : World} {r g : Nat} {M : List Int} {v : Value} {l : List UInt8} (h : OW w r g M v l W) (hw : w.heap.size ≤ r) (hE : Env W' g M) (hK : Kept (fun b => b = g) W W') : OW w r g M v l W' := by
  have hlo := h.lo
  exact ⟨h.res.kept hK (fun e => by have e' : r = g := e; omega), hE, h.own.kept hK (fun i hi e => h.off i hi e), h.off, hlo, by have := hK.size; have := h.siz; omega, h.bel.trans (hK.below (fun b (hb : b = g) => by omega) h.bel.size)⟩

set_option maxRecDepth 100000 in
set_option maxHeartbeats 8000000 in
theorem sTableOf (w : World) (aq a : Option Addr) (q : List Qu) (l : List Nd) (cq c : Nat) (hQ : Qus w aq q) (hN : Nodes w a l) (hl : q.length ≤ 1048576) :
    Calls Tryz.prog 8 #[.slice aq q.length cq, .slice a l.length c] w fun e w' => e = .returned (.tuple #[tv (toN q l) (toS q l), .bool (toB q l)]) ∧ Below w.heap.size w w' := by
  have HN : Hid (Nodes w a l) := hN
  have HQ : Hid (Qus w aq q) := hQ
  obtain ⟨wa, hwa⟩ : ∃ wa : World, wa = w.alloc (.cells #[.int .i64 0, .string ⟨#[]⟩] 30) := ⟨_, rfl⟩
  have HBA : Hid (Below w.heap.size w wa) := by rw [hwa]; exact (Below.refl _ _).alloc (Nat.le_refl _) _
  have HLA : Hid (Lay wa w.heap.size (.int .i64 0) (.string ⟨#[]⟩)) := by rw [hwa]; exact Lay.made _ _ _ _
  have HWA : Hid (w.alloc (.cells #[.int .i64 0, .string ⟨#[]⟩] 30) = wa) := hwa.symm
  clear hN hQ hwa
  have HFE := bitsQ_few q
  go_enter Tryz.func8, Tryz.ntmps8
  go_wp2_with fail
  rw [HWA.out]
  clear HWA
  refine (sBitsQ wa aq q cq (HQ.out.below HBA.out) hl).mono ?_
  rintro e w1 ⟨rfl, hw1⟩
  have hw1' := hw1.symm
  clear hw1
  subst hw1'
  go_wp2_with fail
  refine (sFrontOk _ aq a q l cq c (HQ.out.below HBA.out) (HN.out.below HBA.out) hl).mono ?_
  rintro e w2 ⟨rfl, hb2⟩
  have HB2 : Hid (Below w.heap.size w w2) := HBA.out.trans (hb2.mono HBA.out.size)
  have HL2 : Hid (Lay w2 w.heap.size (.int .i64 0) (.string ⟨#[]⟩)) := HLA.out.below hb2
  clear hb2 HBA HLA
  have HFN : Hid _ := finT HL2.out HB2.out (Nat.le_refl _) (.int .i64 0) (.string ⟨#[]⟩)
  cases hfo : frontOkB q l
  · have HTB : Hid (toB q l = false) := by show _ = _; unfold toB; rw [hfo, Bool.and_false]
    obtain ⟨z0, z1, z2, z3⟩ := HL2.out
    clear hfo HFE
    go_wp2
    obtain ⟨W, hW, hz, hbz⟩ := HFN.out
    rw [← hW]
    obtain ⟨y0, y1, _, _⟩ := hz
    refine bodyPost_ret (v := .tuple #[tv 0 ⟨#[]⟩, .bool false]) (by simp [results, Tryz.results8, go_sem, y0, y1]) rfl ⟨?_, hbz⟩
    rw [(to_no HTB.out).1, (to_no HTB.out).2, HTB.out]
  cases hfe : fewB q
  · have HTB : Hid (toB q l = false) := by show _ = _; unfold toB; rw [hfe]; rfl
    rw [hfe] at HFE
    have hgt : bitsQ q > 12 := by have := of_decide_eq_false HFE.symm; omega
    obtain ⟨z0, z1, z2, z3⟩ := HL2.out
    clear hfo hfe HFE
    go_wp2
    obtain ⟨W, hW, hz, hbz⟩ := HFN.out
    rw [← hW]
    obtain ⟨y0, y1, _, _⟩ := hz
    refine bodyPost_ret (v := .tuple #[tv 0 ⟨#[]⟩, .bool false]) (by simp [results, Tryz.results8, go_sem, y0, y1]) rfl ⟨?_, hbz⟩
    rw [(to_no HTB.out).1, (to_no HTB.out).2, HTB.out]
  have HTB : Hid (toB q l = true) := by show _ = _; unfold toB; rw [hfe, hfo]; rfl
  obtain ⟨n, hn, hn12⟩ := few_of hfe
  have HBQ : Hid (bitsQ q = (n : Int)) := bits_of hn
  have HNB : Hid (bitL q = n) := bit_all hn
  obtain ⟨ws, hF⟩ := fo_all hfo
  obtain ⟨hl1, hl2⟩ := term_len hF.term
  have HTY : Hid (∀ i, i < q.length → 0 ≤ (qth q i).vr ∧ (qth q i).vr ≤ 7 ∧ 1 ≤ (qth q i).bits ∧ (qth q i).bits ≤ 8) := fun i hi => ⟨(hF.q hi).1, (hF.q hi).2.1, (hF.q hi).2.2.1, (hF.q hi).2.2.2.1⟩
  have HAP : Hid (Ap q) := hF.ap
  have HAT : Hid (SAt l (l.length - 1)) := sAt hF.term (l.length - 1) (by omega)
  have HBI : Hid (∀ p, vT (tr l (l.length - 1)) (envL q p) = if atL q l p then 1 else 0) := fun p => hF.bit p
  have hw1 : IntKind.i64.wrap ((l.length : Int) - 1) = (l.length : Int) - 1 := by rw [IntKind.wrap_i64] <;> omega
  have E1 : Hid (((l.length - 1 : Nat) : Int) = (l.length : Int) - 1) := by show _ = _; omega
  have HL12 : Hid (∀ i, bitL (q.drop i) ≤ n) := fun i => by
    rw [← HNB.out]
    by_cases h : i ≤ q.length
    · have h1 : ∀ (p : List Qu) (i : Nat), bitL (p.drop i) ≤ bitL p := fun p => by
        induction p with
        | nil => intro i; simp
        | cons x p ih =>
          intro i
          cases i with
          | zero => exact Nat.le_refl _
          | succ i => exact Nat.le_trans (ih i) (Nat.le_add_left _ _)
      exact h1 q i
    · rw [List.drop_of_length_le (by omega)]; exact Nat.zero_le _
  rw [HBQ.out]
  clear hF hfe hfo HFE hn HFN
  obtain ⟨G, hG⟩ : ∃ G : Nat → Bool, G = atL q l := ⟨_, rfl⟩
  rw [← hG] at HBI
  have HG : Hid (atL q l = G) := hG.symm
  clear hG
  obtain ⟨hp, hpl⟩ := p12 hn12
  have HT0 : Hid (tk n G 0 = []) := rfl
  have HTL : Hid (∀ k, k ≤ 2 ^ n → (tk n G k).length = k) := fun k h => tk_len h
  have HTS : Hid (∀ k, k < 2 ^ n → tk n G (k + 1) = tk n G k ++ [sgn (G k)]) := fun k h => tk_succ h
  have HTA : Hid (bs (tk n G (2 ^ n)) = bs (tab n G)) := by show _ = _; rw [tk_all]
  have HPW : Hid (∀ W, Calls Tryz.prog 34 #[.int .i64 (n : Int)] W fun e w' => e = .returned (.int .i64 ((2 ^ n : Nat) : Int)) ∧ w' = W) := fun W => sPow n W hn12
  generalize hRS : bs (tab n G) = RS at HTA
  have HRS : Hid (bs (tab n G) = RS) := hRS
  clear hRS
  generalize tk n G = TK at *
  generalize hP : 2 ^ n = P at *
  have hgt : ¬ (n : Int) > 12 := by omega
  have hw2 := HL2.out.lt
  go_wp2_with fail
  refine (sZerosW _).mono ?_
  rintro e w3 ⟨⟨g, ce, rfl, hg1, hg2, hrow⟩, hb3⟩
  have HOW : Hid (OW w w.heap.size g (List.replicate 8 0) (.slice (some ⟨w2.heap.size, 0, none⟩) 0 0) (TK 0) w3) := by
    have hs : (w2.alloc (.cells #[] 5)).heap.size = w2.heap.size + 1 := by simp
    rw [hs] at hg1
    exact ⟨(HL2.out.alloc _).below hb3, hrow, by rw [HT0.out]; exact (Owu.lit w2 (w.heap.size + 1) (by omega)).kept (S := fun _ => False) (Kept.ofBelow hb3) (fun _ _ h => h), fun k hk => by simp [Value.ownBlock] at hk; omega, by omega, hg2, (HB2.out.alloc HB2.out.size _).trans (hb3.mono (by rw [hs]; omega))⟩
  clear hb3 hrow hg1 hg2 HB2 HL2
  have HM0 : Hid (MI q 0 0 (List.replicate 8 0)) := MI.zero q 0
  go_wp2
  go_loopw [7, 9] (fun v i wr => ∃ (k : Nat) (M : List Int), k ≤ P ∧ i = .int .i64 k ∧ MI q k 0 M ∧ OW w w.heap.size g M v (TK k) wr) (fun _ i _ => P - (intOf i).toNat)
  case atStart => exact ⟨0, _, Nat.zero_le _, rfl, HM0.out, HOW.out⟩
  case round =>
    obtain ⟨k, M, hk, rfl, hmi, how⟩ := hrel
    have HMI : Hid (MI q k 0 M) := hmi
    have HO : Hid (OW w w.heap.size g M u7 (TK k) wr) := how
    clear hmi how
    by_cases hlt : k < P
    · have hkz : (k : Int) < (P : Int) := by omega
      have hkm : k ≤ 4096 := by omega
      have HBE : Hid ((n : Int) = ((bitL (q.drop 0) : Nat) : Int)) := by show _ = _; rw [List.drop_zero, HNB.out]
      go_wp2_with (go_at_call 34; refine (HPW.out _).mono ?_; rintro e w' ⟨rfl, hw'⟩; have hw'' := hw'.symm; clear hw'; subst hw'')
      go_loopw [10, 11] (fun x i wz => ∃ (j : Nat) (N : List Int), j ≤ q.length ∧ i = .int .i64 j ∧ x = .int .i64 ((bitL (q.drop j) : Nat) : Int) ∧ MI q k j N ∧ OW w w.heap.size g N u7 (TK k) wz) (fun _ i _ => q.length - (intOf i).toNat)
      case atStart => exact ⟨0, M, Nat.zero_le _, rfl, by rw [← HBE.out], HMI.out, HO.out⟩
      case round =>
        obtain ⟨j, N, hj, rfl, rfl, hmj, hoj⟩ := hrel
        have HMJ : Hid (MI q k j N) := hmj
        have HOJ : Hid (OW w w.heap.size g N u7 (TK k) wr) := hoj
        have HNL : Hid (N.length = 8) := hmj.1
        clear hmj hoj
        by_cases hjl : j < q.length
        · have hjz : (j : Int) < (q.length : Int) := by omega
          obtain ⟨b, o, rfl, hc⟩ := quAt HQ.out hjl
          have hbw : b < w.heap.size := lt_of_cell (hc j hjl).c0
          have hbg : b ≠ g := by have := HOJ.out.lo; omega
          obtain ⟨_, p1', p2'⟩ := hc j hjl
          have p1 : wr.cell? ⟨b, o + j * 3 + 1, none⟩ = some (.int .i64 (qth q j).vr) := by rw [HOJ.out.bel.cell (p := ⟨b, o + j * 3 + 1, none⟩) hbw]; exact p1'
          have p2 : wr.cell? ⟨b, o + j * 3 + 2, none⟩ = some (.int .i64 (qth q j).bits) := by rw [HOJ.out.bel.cell (p := ⟨b, o + j * 3 + 2, none⟩) hbw]; exact p2'
          clear hc p1' p2'
          obtain ⟨t1, t2, t3, t4⟩ := HTY.out j hjl
          have HNX : Hid _ := HMJ.out.next HAP.out hjl (by omega)
          have HBD := bit_drop hjl
          have hb12 : bitL (q.drop (j + 1)) ≤ 12 := Nat.le_trans (HL12.out (j + 1)) hn12
          generalize (qth q j).vr = v at p1 t1 t2 HNX
          generalize (qth q j).bits = bt at p2 t3 t4 HNX HBD
          obtain ⟨vv, rfl⟩ := Int.eq_ofNat_of_zero_le t1
          obtain ⟨bb, rfl⟩ := Int.eq_ofNat_of_zero_le (show 0 ≤ bt by omega)
          simp only [Int.toNat_natCast] at HNX HBD
          have hv8 : (vv : Int) < 8 := by omega
          have hbb8 : bb ≤ 8 := by omega
          generalize hL1 : bitL (q.drop (j + 1)) = L1 at HNX HBD hb12
          have HL1 : Hid (bitL (q.drop (j + 1)) = L1) := hL1
          clear hL1
          rw [HBD]
          obtain ⟨L0, hL0⟩ : ∃ L0, L0 = bb + L1 := ⟨_, rfl⟩
          rw [← hL0]
          have hsub : (L0 : Int) - (bb : Int) = (L1 : Int) := by omega
          have hL0m : L0 ≤ 20 := by omega
          clear HBD hL0
          have hwb : IntKind.i64.wrap (L1 : Int) = (L1 : Int) := by rw [IntKind.wrap_i64] <;> omega
          have HC1 : Hid (∀ W, Calls Tryz.prog 34 #[.int .i64 (L1 : Int)] W fun e w' => e = .returned (.int .i64 ((2 ^ L1 : Nat) : Int)) ∧ w' = W) := fun W => sPow L1 W hb12
          have HC2 : Hid (∀ W, Calls Tryz.prog 34 #[.int .i64 (bb : Int)] W fun e w' => e = .returned (.int .i64 ((2 ^ bb : Nat) : Int)) ∧ w' = W) := fun W => sPow bb W (by omega)
          have hq1 : 1 ≤ 2 ^ L1 := Nat.one_le_two_pow
          have hq2 : 1 ≤ 2 ^ bb := Nat.one_le_two_pow
          have hq3 : 2 ^ L1 ≤ 4096 := (p12 hb12).2
          have hq4 : 2 ^ bb ≤ 4096 := (p12 (show bb ≤ 12 by omega)).2
          have HC3 : Hid (∀ W, Calls Tryz.prog 34 #[.int .i64 ((L0 : Int) - (bb : Int))] W fun e w' => e = .returned (.int .i64 ((2 ^ L1 : Nat) : Int)) ∧ w' = W) := fun W => by rw [hsub]; exact sPow L1 W hb12
          have HSUB : Hid ((L0 : Int) - (bb : Int) = (L1 : Int)) := hsub
          generalize 2 ^ L1 = A1 at *
          generalize 2 ^ bb = A2 at *
          have hA1 : ((A1 : Int) == 0) = false := beq_eq_false_iff_ne.2 (by omega)
          have hA2 : ((A2 : Int) == 0) = false := beq_eq_false_iff_ne.2 (by omega)
          have hA1' : ¬ (A1 : Int) = 0 := by omega
          have hA2' : ¬ (A2 : Int) = 0 := by omega
          have HVR : Hid (((k / A1 % A2 : Nat) : Int) = (wrap64 ((k : Int) / (A1 : Int))).tmod (A2 : Int)) := by
            show _ = _
            have h1 : (k : Int) / (A1 : Int) = ((k / A1 : Nat) : Int) := by rw [Int.natCast_ediv]
            have h2 : k / A1 ≤ k := Nat.div_le_self _ _
            rw [h1]
            generalize k / A1 = d at h2
            rw [show wrap64 ((d : Nat) : Int) = (d : Int) by unfold wrap64; omega]
            rfl
          obtain ⟨X, hX⟩ : ∃ X : Int, X = (wrap64 ((k : Int) / (A1 : Int))).tmod (A2 : Int) := ⟨_, rfl⟩
          rw [← hX] at HVR
          have HO9 : Hid _ := HOJ.out.put (Nat.le_refl _) HNL.out (show vv < 8 by omega) X
          obtain ⟨c1, c2⟩ := HOJ.out.env vv (by omega)
          dsimp only at c1
          generalize wd N (vv : Int) = old at c1
          have s1 : ((wr.setCell ⟨g, vv, none⟩ (.int .i64 X)).drew).cell? ⟨b, o + j * 3 + 1, none⟩ = some (.int .i64 (vv : Int)) := (set_other (fun e => hbg (congrArg Addr.block e).symm)).trans p1
          have s2 : ((wr.setCell ⟨g, vv, none⟩ (.int .i64 X)).drew).cell? ⟨b, o + j * 3 + 2, none⟩ = some (.int .i64 (bb : Int)) := (set_other (fun e => hbg (congrArg Addr.block e).symm)).trans p2
          go_wp2_with fail
          go_region_held (fun w' => w'.cell? ⟨b, o + j * 3 + 1, none⟩ = some (.int .i64 (vv : Int)) ∧ w'.cell? ⟨b, o + j * 3 + 2, none⟩ = some (.int .i64 (bb : Int))) ((first | exact ⟨p1, p2⟩ | (rw [← hX]; exact ⟨s1, s2⟩))) ((go_at_call 34; first | (with_reducible refine (HC1.out _).mono ?_; rintro e wn ⟨rfl, rfl⟩) | (with_reducible refine (HC2.out _).mono ?_; rintro e wn ⟨rfl, rfl⟩) | (with_reducible refine (HC3.out _).mono ?_; rintro e wn ⟨rfl, rfl⟩)))
          all_goals
            rw [← hX]
            clear hX
            go_wp2
            first
              | exact ⟨⟨j + 1, _, by omega, by go_num, by rw [HL1.out], HNX.out, by rw [HVR.out]; exact HO9.out⟩, by simp [intOf] <;> omega⟩
              | (go_roundw
                 case rel => exact ⟨j + 1, _, by omega, by go_num, by rw [HL1.out], HNX.out, by rw [HVR.out]; exact HO9.out⟩
                 case measure => simp [intOf] <;> omega)
        · have hjz : ¬ (j : Int) < (q.length : Int) := by omega
          have HEN : Hid (N = envL q k) := by
            have h := HMJ.out
            rw [show j = q.length by omega] at h
            exact h.end_ (fun i hi => (HTY.out i hi).1)
          have HMN : Hid (MI q (k + 1) 0 N) := by rw [HEN.out]; exact MI.again q k (k + 1)
          have HBK : Hid (vT (tr l (l.length - 1)) N = if G k then 1 else 0) := by rw [HEN.out]; exact HBI.out k
          have hN9 : Nodes wr a l := HN.out.below HOJ.out.bel
          have hblk : ∀ y, a = some y → y.block ≠ g := fun y hy h => by
            rcases HN.out.2 with h0 | ⟨xb, xo, hx, hc⟩
            · omega
            · rw [hy] at hx
              have h9 := (hc 0 (by omega)).lt
              have h10 := Option.some.inj hx
              rw [h10] at h
              have : xb = g := h
              have := HOJ.out.lo
              omega
          have HCL := HAT.out wr a c g ce N hN9 hblk HNL.out HOJ.out.env
          rw [E1.out, HBK.out] at HCL
          have HTK := HTS.out k hlt
          have HLN : Hid ((TK k).length = k) := HTL.out k hk
          clear hN9 hblk HBK HEN
          cases hGk : G k
          · rw [hGk] at HTK HCL
            rw [if_neg (by simp)] at HCL
            have HT : Hid (TK (k + 1) = TK k ++ [sgn false]) := HTK
            clear hGk HTK
            go_wp2_with fail
            refine HCL.mono ?_
            rintro x w5 ⟨rfl, hE5, hK5⟩
            have HO5 : Hid (OW w w.heap.size g N u7 (TK k) w5) := HOJ.out.call (Nat.le_refl _) hE5 hK5
            have hsz : w.heap.size + 1 ≤ w5.heap.size := by have := HO5.out.siz; have := HO5.out.lo; omega
            clear hE5 hK5
            go_wp2_with (at_builtin; go_must (refine app_byte _ rfl _ _ rfl (w.heap.size + 1) u7 (TK k) (sgn false) _ (show (48 : Int) = ((sgn false).toNat : Int) from rfl) rfl rfl HO5.out.own hsz (by rw [HLN.out]; omega) ?_; intro g6 cp6 w6 ho6 hk6 hg6; have HO6 : Hid (OW w w.heap.size g N (.slice (some ⟨g6, 0, none⟩) ((TK k).length + 1) cp6) (TK k ++ [sgn false]) w6) := HO5.out.next (Nat.le_refl _) hk6 ho6 (fun i hi => by simp [Value.ownBlock] at hi; subst hi; rcases hg6 with e | e; exact HO5.out.off _ e; have := HO5.out.siz; omega); clear ho6 hk6 hg6))
            go_roundw
            case rel => exact ⟨k + 1, N, by omega, by go_num, HMN.out, by rw [HT.out]; exact HO6.out⟩
            case measure => simp [intOf] <;> omega
          · rw [hGk] at HTK HCL
            rw [if_pos rfl] at HCL
            have HT : Hid (TK (k + 1) = TK k ++ [sgn true]) := HTK
            clear hGk HTK
            go_wp2_with fail
            refine HCL.mono ?_
            rintro x w5 ⟨rfl, hE5, hK5⟩
            have HO5 : Hid (OW w w.heap.size g N u7 (TK k) w5) := HOJ.out.call (Nat.le_refl _) hE5 hK5
            have hsz : w.heap.size + 1 ≤ w5.heap.size := by have := HO5.out.siz; have := HO5.out.lo; omega
            clear hE5 hK5
            go_wp2_with (at_builtin; go_must (refine app_byte _ rfl _ _ rfl (w.heap.size + 1) u7 (TK k) (sgn true) _ (show (49 : Int) = ((sgn true).toNat : Int) from rfl) rfl rfl HO5.out.own hsz (by rw [HLN.out]; omega) ?_; intro g6 cp6 w6 ho6 hk6 hg6; have HO6 : Hid (OW w w.heap.size g N (.slice (some ⟨g6, 0, none⟩) ((TK k).length + 1) cp6) (TK k ++ [sgn true]) w6) := HO5.out.next (Nat.le_refl _) hk6 ho6 (fun i hi => by simp [Value.ownBlock] at hi; subst hi; rcases hg6 with e | e; exact HO5.out.off _ e; have := HO5.out.siz; omega); clear ho6 hk6 hg6))
            go_roundw
            case rel => exact ⟨k + 1, N, by omega, by go_num, HMN.out, by rw [HT.out]; exact HO6.out⟩
            case measure => simp [intOf] <;> omega
    · have hkz : ¬ (k : Int) < (P : Int) := by omega
      have hkP : k = P := by omega
      have HSP : Hid (OW w w.heap.size g M u7 (TK P) wr) := by have h := HO.out; rw [hkP] at h; exact h
      have hcv : (convert 22 9 u7).run Tryz.prog wr = .ok (.string RS) wr := by
        have := HSP.out.own.text (by rw [HTL.out P (Nat.le_refl _)]; exact hp)
        rw [HTA.out] at this
        exact this
      obtain ⟨r0, r1, r2, r3⟩ := HSP.out.res
      have HFN : Hid _ := finT HSP.out.res HSP.out.bel (Nat.le_refl _) (.int .i64 (n : Int)) (.string RS)
      clear hkP
      obtain ⟨av, cv, hv, _⟩ := HSP.out.own.form
      subst hv
      go_wp2_with (go_at_call 34; refine (HPW.out _).mono ?_; rintro e w' ⟨rfl, hw'⟩; have hw'' := hw'.symm; clear hw'; subst hw'')
      obtain ⟨W, hW, hz, hbz⟩ := HFN.out
      rw [← hW]
      obtain ⟨z0, z1, _, _⟩ := hz
      refine bodyPost_ret (v := .tuple #[tv (n : Int) RS, .bool true]) (by simp [results, Tryz.results8, go_sem, z0, z1]) rfl ⟨?_, hbz⟩
      rw [(to_yes HTB.out).1, (to_yes HTB.out).2, HTB.out, HNB.out, HG.out, HRS.out]

end Go.Proofs.YtbnjndloeflgiaaGreat.To3

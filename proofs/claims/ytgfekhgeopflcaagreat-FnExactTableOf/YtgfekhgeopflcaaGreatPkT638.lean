/- Small texts of mine, one behind the other. -/
import Derived.Test.YtgfekhgeopflcaaGreatRows
import Derived.Deep.AppendLies
import Derived.OwnWalk
import Derived.Laws.IdiomStrings
import Derived.Test.YtgfekhgeopflcaaGreatSv3
import Derived.Test.YtgfekhgeopflcaaGreatPkT635
import Derived.Test.YtgfekhgeopflcaaGreatPkT612
import Derived.Test.YtgfekhgeopflcaaGreatPkT60
import Derived.Test.YtgfekhgeopflcaaGreatPkT633
/- The walk of the model's l04At, out of l04One; the two by induction on the place. -/
namespace Go.Proofs.YtgfekhgeopflcaaGreat.Sv4
open Go.RowKit
open Nd0 Pl1 Tm0 Tm1 Tm5 Tm6 Tm8 Ap0 Tr0 Rw0 Vl1 Vl2 Vm0 Kp1 Sv3
open Wd1 (ret_int)
set_option linter.unusedVariables false

/-- What the first k nodes are worth. -/
def vsTo (l : List Nd) (e : List Int) (k : Nat) : List Int := (List.range k).map fun j => vT (tr l j) e
theorem vsTo_length (l : List Nd) (e : List Int) (k : Nat) : (vsTo l e k).length = k := by simp [vsTo]
theorem vsTo_succ (l : List Nd) (e : List Int) (k : Nat) : vsTo l e (k + 1) = vsTo l e k ++ [vT (tr l k) e] := by simp [vsTo, List.range_succ]
theorem vsTo_wd (l : List Nd) (e : List Int) {j k : Nat} (h : j < k) : wd (vsTo l e k) (j : Int) = vT (tr l j) e := by
  rw [← wd_get (by rw [vsTo_length]; exact h)]; simp [vsTo]

set_option maxRecDepth 100000 in
set_option maxHeartbeats 8000000 in
theorem at_of {l : List Nd} {i : Nat} (hi : i < l.length) (h80 : l.length ≤ 80) (ih : ∀ k, k ≤ i → SOne l k) : SAt l i := by
  intro w a c g ce e hN0 hag he hE
  have HN0 : Hid (Nodes w a l) := hN0
  have HAG : Hid (∀ x, a = some x → ¬ x.block = g) := hag
  have HE : Hid (Env w g e) := hE
  have IH : Hid (∀ k, k ≤ i → SOne l k) := ih
  have hg := hE.lt
  clear hN0 hag hE ih
  go_enter Tryz.func17, Tryz.ntmps17
  go_wp2_with fail
  go_loopw [7, 8] (fun v q wr => ∃ k : Nat, k ≤ i + 1 ∧ q = .int .i64 (k : Int) ∧ Ows wr w.heap.size v (vsTo l e k) ∧ Env wr g e ∧ Kept (fun b => b = g) w wr) (fun _ q _ => i + 1 - (intOf q).toNat)
  case atStart => exact ⟨0, Nat.zero_le _, rfl, Ows.lit w _ (Nat.le_refl _), HE.out.kept (S := fun _ => False) ((Kept.refl _ _).alloc _) (fun h => h), (Kept.refl _ _).alloc _⟩
  case round =>
    obtain ⟨k, hk, rfl, ho, hE2, hK2⟩ := hrel
    have HE2 : Hid (Env wr g e) := hE2
    have HK2 : Hid (Kept (fun b => b = g) w wr) := hK2
    have hBs : w.heap.size ≤ wr.heap.size := hK2.size
    have HLN : Hid ((vsTo l e k).length = k) := vsTo_length l e k
    clear hE2 hK2
    by_cases hlt : k ≤ i
    · have hkz : (k : Int) ≤ (i : Int) := by omega
      obtain ⟨av, cv, rfl, hwi⟩ := ho.form
      have HO : Hid (Ows wr w.heap.size (.slice av (vsTo l e k).length cv) (vsTo l e k)) := ho
      have HI : Hid (Ints wr av (vsTo l e k)) := hwi.ints
      rw [HLN.out] at HO ⊢
      clear ho hwi
      have HSU : Hid (vsTo l e (k + 1) = vsTo l e k ++ [vT (tr l k) e]) := vsTo_succ l e k
      have HON := IH.out k hlt
      have HONH : Hid (SOne l k) := HON
      clear HON
      go_wp2_with fail
      refine (HONH.out _ _ _ c g ce cv e (vsTo l e k) (HN0.out.kept HK2.out HAG.out) HAG.out he HE2.out HI.out HLN.out (fun j hj => vsTo_wd l e hj)).mono ?_
      rintro x0 w2 ⟨rfl, hE3, hK3⟩
      have HE3 : Hid (Env w2 g e) := hE3
      have HK3 : Hid (Kept (fun b => b = g) w w2) := HK2.out.trans hK3
      have HO3 : Hid (Ows w2 w.heap.size (.slice av k cv) (vsTo l e k)) := HO.out.kept hK3 (fun b hb (e : b = g) => by have := (HO.out.lt b hb).1; omega)
      have hB3 : w.heap.size ≤ w2.heap.size := HK3.out.size
      clear hE3 hK3 HO HI HE2
      generalize vT (tr l k) e = x at HSU
      generalize vsTo l e k = L at HO3 HSU HLN
      have HLE : Hid (L.length ≤ 1048576) := by
        show _ ≤ _
        have := HLN.out
        omega
      go_wp2_with (at_builtin; go_must (refine app_int _ rfl _ _ rfl w.heap.size (.slice av k cv) L x rfl rfl HO3.out hB3 HLE.out ?_; intro g5 cp5 w5 ho5 hk5 hg5; have HO5 : Hid (Ows w5 w.heap.size (.slice (some ⟨g5, 0, none⟩) (L.length + 1) cp5) (L ++ [x])) := ho5; have HK5 : Hid (Kept (fun b => (Value.slice av k cv).ownBlock = some b) w2 w5) := hk5; clear ho5 hk5 hg5))
      go_roundw
      case rel =>
        refine ⟨k + 1, by omega, by go_num, by rw [HSU.out]; exact HO5.out, HE3.out.kept HK5.out (fun h => by have := (HO3.out.lt g h).1; omega), Kept.past HK3.out HK5.out (fun b h => .inr (HO3.out.lt b h).1)⟩
      case measure => simp [intOf]; omega
    · have hkz : ¬ (k : Int) ≤ (i : Int) := by omega
      have hke : k = i + 1 := by omega
      obtain ⟨g6, c6, hv6, hg6, hr6⟩ : ∃ g6 c6, u7 = .slice (some ⟨g6, 0, none⟩) (i + 1) c6 ∧ g6 < wr.heap.size ∧ wr.cell? ⟨g6, i, none⟩ = some (.int .i64 (vT (tr l i) e)) := by
        obtain ⟨g6, c6, hv, _, hlt6, hrow⟩ := Rw1.row_ints ho (by rw [HLN.out]; omega)
        rw [HLN.out, hke] at hv
        refine ⟨g6, c6, hv, hlt6, ?_⟩
        have := (hrow i (by rw [HLN.out]; omega)).1
        rw [this]
        dsimp only
        rw [vsTo_wd l e (by omega)]
      subst hv6
      clear ho
      have hiz : (i : Int) < (i : Int) + 1 := by omega
      go_wp2
      go_ret
      exact ⟨rfl, HE2.out, HK2.out⟩
/-- Each node of a right term is worth what its tree is worth. -/
theorem sAt {l : List Nd} (hT : termOk l = true) : ∀ i, i < l.length → SAt l i := by
  intro i
  induction i using Nat.strongRecOn with
  | ind i ih =>
    intro hi
    have hl := term_len hT
    have hD := down_of hT
    have hN : ∀ k, k < l.length → nodeOk l k = true := fun k hk => term_node hT hk
    refine at_of hi hl.2 (fun k hk => ?_)
    have hkl : k < l.length := by omega
    by_cases h1 : (nth l k).op = 1
    · exact one_var hD hN hkl hl.2 h1
    · cases hq : quant (nth l k).op
      · exact one_other hD hN hkl hl.2 h1 hq
      · refine one_quant hD hN hkl hl.2 hq ?_
        have hq2 : (nth l k).op = 19 ∨ (nth l k).op = 20 := by simpa [quant] using hq
        have haa := hD k hkl (nth l k).a (by rw [parts_one (by omega)]; simp)
        exact ih _ (by omega) (by omega)

end Go.Proofs.YtgfekhgeopflcaaGreat.Sv4

/- The walk of the model's HoldsFront. -/
namespace Go.Proofs.YtgfekhgeopflcaaGreat.Fm4
open Go.RowKit
open Nd0 Qa0 Pl1 Tm0 Tm1 Tm6 Tr0 Rw0 Rw1 Vl1 Vm0 Kp1 Fr0 Fr1 Fr4
open Fm1 (quAt sBitsQ bitsQ bitsQ_few)
open Fm2 (sFrontOk sZerosW)
open Sv4 (sAt)
open Wd1 (spow)
open Ws1 (ret_int ret_bool)
set_option linter.unusedVariables false

/-- What HoldsFront tells. -/
def hfB (q : List Qu) (l : List Nd) : Bool := frontOkB q l && fewB q
def hfV (q : List Qu) (l : List Nd) : Int := if hfB q l then hf q (root l) (List.replicate 8 0) else 0

theorem env_set {w : World} {g : Nat} {e : List Int} (h : Env w g e) (he : e.length = 8) {v : Nat} (hv : v < 8) (x : Int) : Env (w.setCell ⟨g, v, none⟩ (.int .i64 x)) g (e.set v x) := row_set_int h he hv x

end Go.Proofs.YtgfekhgeopflcaaGreat.Fm4

/- Lists of bytes that are appended to and written: the law at the walk, and how they are read. -/
namespace Go.Proofs.YtgfekhgeopflcaaGreat.Ap9
open Go.RowKit
open Nd0
set_option linter.unusedVariables false

/-- A slice of the bytes l, in a block from B on, that may be written. -/
def WBys (w : World) (B : Nat) (a : Option Addr) (l : List UInt8) : Prop :=
  l.length ≤ maxLen ∧ (l.length = 0 ∨ ∃ b o, a = some ⟨b, o, none⟩ ∧ B ≤ b ∧ ∀ i (h : i < l.length), w.cell? ⟨b, o + i, none⟩ = some (.int .u8 (l[i].toNat : Int)) ∧ w.frozen? ⟨b, o + i, none⟩ = false)

theorem infoByte : (Tryz.prog.info? 5).map (fun i => (i.zero, i.size, i.bytes)) = some (some (.int .u8 0), 1, 1) := by kernel_rfl

/-- The slice v, in a block from B on, is the bytes l and may be appended to. -/
def Owu (w : World) (B : Nat) (v : Value) (l : List UInt8) : Prop := w.ownsRow B 5 1 v l.length (l.map fun x => .int .u8 (x.toNat : Int))

theorem Owu.form {w : World} {B : Nat} {v : Value} {l : List UInt8} (h : Owu w B v l) : ∃ a c, v = .slice a l.length c ∧ WBys w B a l := by
  obtain ⟨h1, h2⟩ := h
  rcases h2 with ⟨rfl, h0⟩ | ⟨g, cap, cur, rfl, hb, hg, hn, hm, hs, ht⟩
  · have : l = [] := List.eq_nil_of_length_eq_zero h0
    subst this
    exact ⟨none, 0, rfl, Nat.zero_le _, .inl rfl⟩
  · refine ⟨_, _, rfl, by omega, .inr ⟨g, 0, rfl, hb, fun i hi => ⟨?_, ?_⟩⟩⟩
    · rw [Nat.zero_add, cell_of_row w g i cur _ _ hg]
      have e : (cur.toList.take (l.length * 1))[i]? = some (.int .u8 (l[i].toNat : Int)) := by rw [ht]; simp [hi]
      rw [List.getElem?_take_of_lt (by omega)] at e
      simpa using e
    · rw [Nat.zero_add]
      simp [World.frozen?, hg]
theorem Owu.lit (w : World) (B : Nat) (hB : B ≤ w.heap.size) : Owu (w.alloc (.cells #[] 5)) B (.slice (some ⟨w.heap.size, 0, none⟩) 0 0) [] :=
  World.ownsRow_lit w #[] 0 hB (Nat.zero_le _) rfl
theorem Owu.lt {w : World} {B : Nat} {v : Value} {l : List UInt8} (h : Owu w B v l) : ∀ k, v.ownBlock = some k → B ≤ k ∧ k < w.heap.size := World.ownsRow.lt h
theorem Owu.kept {w w' : World} {B : Nat} {v : Value} {l : List UInt8} (h : Owu w B v l) {S : Nat → Prop} (k : Kept S w w') (hs : ∀ i, v.ownBlock = some i → ¬ S i) : Owu w' B v l := by
  refine ⟨h.1, ?_⟩
  rcases h.2 with hn | ⟨g, cap, cur, rfl, hb, hgg, rest⟩
  · exact .inl hn
  · refine .inr ⟨g, cap, cur, rfl, hb, ?_, rest⟩
    rw [k.block g (Array.getElem?_eq_some_iff.1 hgg).1 (hs g rfl)]
    exact hgg

/-- A byte written over. -/
theorem Owu.set {w : World} {B g cap : Nat} {l : List UInt8} (h : Owu w B (.slice (some ⟨g, 0, none⟩) l.length cap) l) (j : Nat) (x : UInt8) : Owu (w.setCell ⟨g, j, none⟩ (.int .u8 (x.toNat : Int))) B (.slice (some ⟨g, 0, none⟩) l.length cap) (l.set j x) := by
  have h1 := (World.ownsRow.stored h j (.int .u8 (x.toNat : Int))).1
  unfold Owu
  rw [List.map_set, List.length_set]
  exact h1
theorem Owu.cell {w : World} {B g cap : Nat} {l : List UInt8} (h : Owu w B (.slice (some ⟨g, 0, none⟩) l.length cap) l) (j : Nat) (hj : j < l.length) : w.cell? ⟨g, j, none⟩ = some (.int .u8 (l[j].toNat : Int)) ∧ w.frozen? ⟨g, j, none⟩ = false := by
  obtain ⟨a, c, hv, hw⟩ := h.form
  cases hv
  rcases hw.2 with h0 | ⟨b, o, hb, _, hc⟩
  · omega
  · cases hb
    have := hc j hj
    rw [Nat.zero_add] at this
    exact this

theorem Owu.set' {w : World} {B g cap n : Nat} {l : List UInt8} (h : Owu w B (.slice (some ⟨g, 0, none⟩) n cap) l) (hn : l.length = n) (j : Nat) (x : UInt8) : Owu (w.setCell ⟨g, j, none⟩ (.int .u8 (x.toNat : Int))) B (.slice (some ⟨g, 0, none⟩) n cap) (l.set j x) := by
  subst hn; exact h.set j x
theorem Owu.cell' {w : World} {B g cap n : Nat} {l : List UInt8} (h : Owu w B (.slice (some ⟨g, 0, none⟩) n cap) l) (hn : l.length = n) (j : Nat) (hj : j < n) : w.cell? ⟨g, j, none⟩ = some (.int .u8 ((l[j]'(by omega)).toNat : Int)) ∧ w.frozen? ⟨g, j, none⟩ = false := by
  subst hn; exact h.cell j hj
theorem Owu.at {w : World} {B : Nat} {v : Value} {l : List UInt8} (h : Owu w B v l) (hl : 1 ≤ l.length) : ∃ g c, v = .slice (some ⟨g, 0, none⟩) l.length c ∧ B ≤ g ∧ g < w.heap.size := by
  rcases h.2 with ⟨rfl, h0⟩ | ⟨g, cap, cur, rfl, hb, hg, _⟩
  · omega
  · exact ⟨g, cap, rfl, hb, (Array.getElem?_eq_some_iff.1 hg).1⟩

/-- One byte more. -/
theorem app_byte {ops : Array Oper} {rest : List Oper} {o : Oper} {a : Act} {Q : Exit → Act → World → Prop} (W : World) (hgd : o.guard = none) (s x : Operand)
    (ho : o.op = .call { callee := .builtin .append, args := #[s, x], argTypes := #[40, 40] })
    (B : Nat) (v : Value) (l : List UInt8) (y : UInt8) (z : Int) (hz0 : z = (y.toNat : Int)) (hs : a.eval s = v) (hx : a.eval x = .slice (some ⟨W.heap.size, 0, none⟩) 1 1)
    (hown : Owu W B v l) (hB : B ≤ W.heap.size) (hlen : l.length ≤ 1048576)
    (h : ∀ g cap w', Owu w' B (.slice (some ⟨g, 0, none⟩) (l.length + 1) cap) (l ++ [y]) → Kept (fun k => v.ownBlock = some k) W w' → (v.ownBlock = some g ∨ W.heap.size ≤ g) → wpList Tryz.prog ops Q rest (a.put o.dst (.slice (some ⟨g, 0, none⟩) (l.length + 1) cap)) w') :
    wpList Tryz.prog ops Q (o :: rest) a (W.alloc (.cells #[.int .u8 z] 5)) := by
  subst hz0
  obtain ⟨i, hi, hzz⟩ := Option.map_eq_some_iff.1 infoByte
  simp only [Prod.mk.injEq] at hzz
  obtain ⟨hz, hsz, hb⟩ := hzz
  refine wpList_append_lies (W.alloc (.cells #[.int .u8 (y.toNat : Int)] 5)) hgd s x 40 ho B 5 i (.int .u8 0) 1 1 Tryz.underlying40 hi hz hsz hb rfl (by omega) v l.length (l.map fun x => .int .u8 (x.toNat : Int)) hs (World.ownsRow.alloc hown _)
    ⟨W.heap.size, 0, none⟩ 1 1 [.int .u8 (y.toNat : Int)] hx rfl ?_ ?_ (by omega) (by unfold maxLen; omega) (by omega) (by simp; omega) _ rfl ?_
  · intro j u hu
    exact World.news_of_block (heap_alloc_new W _) j u hu
  · intro u hu
    simp at hu
    subst hu
    rfl
  · intro g cap w' h1 h2 h3 h4
    refine h g cap w' ?_ ?_ ?_
    · unfold Owu
      simpa using h1
    · have k1 : Kept (fun k => v.ownBlock = some k) W (W.alloc (.cells #[.int .u8 (y.toNat : Int)] 5)) := (Kept.refl _ W).alloc _
      exact k1.trans ⟨h2.os, h2.tape, h2.output, h2.size, fun k hk hn => h2.block k hk (fun e => hn e.symm)⟩
    · rcases h3 with h3 | h3
      · exact .inl h3
      · exact .inr (by rw [h3]; simp)

end Go.Proofs.YtgfekhgeopflcaaGreat.Ap9

/- The model's functions over tables: count, known, not. -/
namespace Go.Proofs.YtgfekhgeopflcaaGreat.Td1
open Go.RowKit
open Ta0 Ta1 Tc2 Tc5 Ap9
open Nd0 (Kept set_other set_same lt_of_cell)
open Ss0 (bs bs_size ret_str)
open Ss1 (tl tl_length tl_get tl_take bs_tl tl_bs tl_inj eqb)
set_option linter.unusedVariables false

/-- What a right table's string has: its size and its signs. -/
structure Sg (S : ByteArray) (P : Nat) (F : Nat → Bool) : Prop where
  size : S.size = P
  at_ : ∀ k (h : k < S.size), (S[k].toNat : Int) = 48 + ((F k).toNat : Int)
theorem sg_tab (n : Nat) (F : Nat → Bool) : Sg (bs (tab n F)) (2 ^ n) F :=
  ⟨by rw [bs_size, tab_length], fun k h => by rw [bs_tab_get, sgn_toNat]; push_cast; rfl⟩

/-- What is known: 0, 1 or nothing. -/
def knw (n : Nat) (F : Nat → Bool) : Int := if cnt F (2 ^ n) = 0 then 0 else if cnt F (2 ^ n) = 2 ^ n then 1 else -1
theorem knw_same {n : Nat} {F : Nat → Bool} (h : ∀ j, j < 2 ^ n → F j = F 0) : knw n F = ((F 0).toNat : Int) := by
  unfold knw
  have hp := Nat.one_le_two_pow (n := n)
  cases h0 : F 0
  · rw [if_pos ((cnt_zero F _).2 fun j hj => by rw [h j hj, h0])]; rfl
  · have h1 := (cnt_all F (2 ^ n)).2 fun j hj => by rw [h j hj, h0]
    rw [if_neg (by omega), if_pos h1]; rfl
theorem knw_diff {n : Nat} {F : Nat → Bool} {k : Nat} (hk : k < 2 ^ n) (h : F k ≠ F 0) : knw n F = -1 := by
  unfold knw
  have hp := Nat.one_le_two_pow (n := n)
  rw [if_neg, if_neg]
  · intro e
    have := (cnt_all F _).1 e
    exact h (by rw [this k hk, this 0 (by omega)])
  · intro e
    have := (cnt_zero F _).1 e
    exact h (by rw [this k hk, this 0 (by omega)])

end Go.Proofs.YtgfekhgeopflcaaGreat.Td1

/- The model's functions over tables: not, both, half. -/
namespace Go.Proofs.YtgfekhgeopflcaaGreat.Td2
open Go.RowKit
open Ta0 Ta1 Tc2 Tc5 Ap9 Td1
open Nd0 (Kept set_other set_same lt_of_cell)
open Ss0 (bs bs_size ret_str bs_ext)
open Ss1 (tl tl_length tl_get tl_take bs_tl tl_bs tl_inj eqb)
set_option linter.unusedVariables false

theorem _root_.Go.Proofs.YtgfekhgeopflcaaGreat.Ap9.Owu.text {W : World} {B : Nat} {v : Value} {l : List UInt8} (h : Owu W B v l) (hl : 1 ≤ l.length) : (convert 40 9 v).run Tryz.prog W = .ok (.string (bs l)) W := by
  obtain ⟨a, c, rfl, hw⟩ := h.form
  rcases hw.2 with h0 | ⟨b, o, rfl, _, hc⟩
  · omega
  · exact run_convert_bytes_back (P := Tryz.prog) W 40 9 5 ⟨b, o, none⟩ c l Tryz.underlying40 Tryz.underlying5 Tryz.underlying9 (fun j hj => by rw [Addr.add_lit]; exact (hc j hj).1)

/-- The first k signs. -/
def tk (n : Nat) (G : Nat → Bool) (k : Nat) : List UInt8 := (tab n G).take k
theorem tk_zero (n : Nat) (G : Nat → Bool) : tk n G 0 = [] := rfl
theorem tk_len {n : Nat} {G : Nat → Bool} {k : Nat} (h : k ≤ 2 ^ n) : (tk n G k).length = k := by unfold tk; rw [List.length_take, tab_length]; omega
theorem tk_succ {n : Nat} {G : Nat → Bool} {k : Nat} (h : k < 2 ^ n) : tk n G (k + 1) = tk n G k ++ [sgn (G k)] := by
  unfold tk
  rw [List.take_succ_eq_append_getElem (by rw [tab_length]; exact h), tab_get]
theorem tk_all (n : Nat) (G : Nat → Bool) : tk n G (2 ^ n) = tab n G := by unfold tk; rw [List.take_of_length_le (by rw [tab_length]; omega)]

/-- What stands while a table is written. -/
structure OT (w : World) (B r : Nat) (N : Int) (S : ByteArray) (v : Value) (l : List UInt8) (W : World) : Prop where
  lay : Lay W B (.int .i64 N) (.string S)
  res : Lay W r (.int .i64 0) (.string ByteArray.empty)
  own : Owu W (r + 1) v l
  siz : r + 1 ≤ W.heap.size
  bel : Below w.heap.size w W
theorem OT.next {w W W' : World} {B r : Nat} {N : Int} {S : ByteArray} {v v' : Value} {l l' : List UInt8} (h : OT w B r N S v l W) (hB : B < r + 1) (hw : w.heap.size ≤ r) (hk : Kept (fun k => v.ownBlock = some k) W W') (ho : Owu W' (r + 1) v' l') : OT w B r N S v' l' W' :=
  ⟨h.lay.kept hk (fun e => by have := (h.own.lt _ e).1; omega), h.res.kept hk (fun e => by have := (h.own.lt _ e).1; omega), ho, by have := hk.size; have := h.siz; omega, h.bel.trans (hk.below (fun b hb => by have := (h.own.lt _ hb).1; omega) h.bel.size)⟩

theorem finT {w W : World} {r : Nat} {a b : Value} (hr : Lay W r a b) (hb : Below w.heap.size w W) (hw : w.heap.size ≤ r) (x y : Value) :
    ∃ W', W' = (W.setCell ⟨r, 0, none⟩ x).setCell ⟨r, 1, none⟩ y ∧ Lay W' r x y ∧ Below w.heap.size w W' := by
  have K : Kept (fun b => b = r) W ((W.setCell ⟨r, 0, none⟩ x).setCell ⟨r, 1, none⟩ y) := kset (S := fun b => b = r) (kset (S := fun b => b = r) (Kept.refl (fun b => b = r) W) rfl _) rfl _
  exact ⟨_, rfl, hr.put x y, hb.trans (K.below (fun b hb => by omega) hb.size)⟩

end Go.Proofs.YtgfekhgeopflcaaGreat.Td2

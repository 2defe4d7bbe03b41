import Derived.Deep.CutRange
import Derived.Deep.RegionHeld
import Derived.Test.YtiaimhgfimhepaaGreatDoorRows
import Derived.Deep.AppendLies
import Derived.OwnWalk
import Derived.Deep.RegionWith
import Derived.Laws.MakeOwn
import Derived.Deep.Upon
import Derived.Test.YtiaimhgfimhepaaGreatDoorPkVV22
import Derived.Test.YtiaimhgfimhepaaGreatDoorPkVV9
import Derived.Test.YtiaimhgfimhepaaGreatDoorPkVV6
import Derived.Test.YtiaimhgfimhepaaGreatDoorPkVV21
import Derived.Test.YtiaimhgfimhepaaGreatDoorPkVV0
import Derived.Test.YtiaimhgfimhepaaGreatDoorPkVV1
import Derived.Test.YtiaimhgfimhepaaGreatDoorPkVV12
namespace Go.Proofs.YtiaimhgfimhepaaGreatDoor
set_option maxRecDepth 100000
set_option maxHeartbeats 8000000
set_option linter.unusedVariables false
namespace Ss5
open Go.RowKit
open Nd0 Nd3 Tm0 Tx0 Tx1 Tx2 Tx3 Tx4 Ss0 Ss1 Ss2 Ss3 Ss4
abbrev Kb (b : Nat) (w w' : World) : Prop := Kept (fun k => k = b) w w'
theorem put_fit {t t' : List Nd} {n : Nd} {q i : Nat} (hf : Fit t) (h : putL t n q = .ok (t', i)) : Fit t' := by
 unfold putL at h
 split at h
 ·cases h; exact hf
 ·split at h
  ·rename_i hno
   split at h
   ·cases h
   ·rename_i hle
    cases h
    refine ⟨by simp; omega, fun k hk => ?_⟩
    by_cases e : k < t.length
    ·exact (node_app e).2 (hf.2 k e)
    ·have : k = t.length := by simp at hk; omega
     rw [this]; exact hno
  ·cases h
end Ss5
namespace Ss5b
open Nd0 Tm0 Tx0 Tx1 Tx2 Tx3 Tx4
end Ss5b
namespace Ss6
open Go.RowKit
open Nd0 Nd3 Ap0 Tm0 Tm5 Tx0 Tx1 Tx2 Tx3 Tx4 Ss0 Ss1 Ss2 Ss3 Ss4 Ss5 Ss5b
open Sp10 (sQuant)
open Ws1 (sIn ret_int ret_bool)
end Ss6
namespace Ss7
open Go.RowKit
open Nd0 Nd3 Tm0 Tx0 Tx1 Ss0 Ss1 Ss2 Ss3 Ss4 Ss5 Ss5b Ss6
open Ws1 (ret_int ret_bool)
end Ss7
namespace Ss8
open Go.RowKit
open Nd0 Nd3 Tm0 Tx0 Tx1 Ss0 Ss1 Ss2 Ss3 Ss4 Ss5 Ss5b Ss6 Ss7
open Ws1 (ret_int ret_bool)
end Ss8
namespace Ap4
open Go.RowKit
open Nd0 Ss0 Ss2
theorem infoStr : (Tryz.prog.info? 9).map (fun i => (i.zero, i.size, i.bytes)) = some (some (.string ⟨#[]⟩), 1, 16) := by kernel_rfl
def Ost (w : World) (B : Nat) (v : Value) (l : List (List UInt8)) : Prop := w.ownsRow B 9 1 v l.length (l.map fun x => .string (bs x))
theorem Ost.form {w : World} {B : Nat} {v : Value} {l : List (List UInt8)} (h : Ost w B v l) : ∃ a c, v = .slice a l.length c /\ Strs w a l := by
 obtain ⟨h1, h2⟩ := h
 rcases h2 with ⟨rfl, h0⟩ | ⟨g, cap, cur, rfl, hb, hg, hn, hm, hs, ht⟩
 ·have : l = [] := List.eq_nil_of_length_eq_zero h0
  subst this
  exact ⟨none, 0, rfl, Nat.zero_le _, .inl rfl⟩
 ·refine ⟨_, _, rfl, by omega, .inr ⟨g, 0, rfl, fun i hi => ?_⟩⟩
  ·rw [Nat.zero_add, cell_of_row w g i cur _ _ hg]
   have e : (cur.toList.take (l.length * 1))[i]? = some (.string (bs l[i])) := by rw [ht]; simp [hi]
   rw [List.getElem?_take_of_lt (by omega)] at e
   simpa using e
theorem Ost.lt {w : World} {B : Nat} {v : Value} {l : List (List UInt8)} (h : Ost w B v l) : ∀ k, v.ownBlock = some k -> B <= k /\ k < w.heap.size := World.ownsRow.lt h
theorem Ost.kept {w w' : World} {B : Nat} {v : Value} {l : List (List UInt8)} (h : Ost w B v l) {S : Nat -> Prop} (k : Kept S w w') (hs : ∀ i, v.ownBlock = some i -> ¬ S i) : Ost w' B v l := by
 refine ⟨h.1, ?_⟩
 rcases h.2 with hn | ⟨g, cap, cur, rfl, hb, hgg, rest⟩
 ·exact .inl hn
 ·refine .inr ⟨g, cap, cur, rfl, hb, ?_, rest⟩
  rw [k.block g (Array.getElem?_eq_some_iff.1 hgg).1 (hs g rfl)]
  exact hgg
theorem app_str {ops : Array Oper} {rest : List Oper} {o : Oper} {a : Act} {Q : Exit -> Act -> World -> Prop} (W : World) (hgd : o.guard = none) (s x : Operand)
 (ho : o.op = .call { callee := .builtin .append, args := #[s, x], argTypes := #[75, 75] })
 (B : Nat) (v : Value) (l : List (List UInt8)) (y : List UInt8) (hs : a.eval s = v) (hx : a.eval x = .slice (some ⟨W.heap.size, 0, none⟩) 1 1)
 (hown : Ost W B v l) (hB : B <= W.heap.size) (hlen : l.length <= 1048576)
 (h : ∀ g cap w', Ost w' B (.slice (some ⟨g, 0, none⟩) (l.length + 1) cap) (l ++ [y]) -> Kept (fun k => v.ownBlock = some k) W w' -> (v.ownBlock = some g \/ W.heap.size <= g) -> wpList Tryz.prog ops Q rest (a.put o.dst (.slice (some ⟨g, 0, none⟩) (l.length + 1) cap)) w') :
 wpList Tryz.prog ops Q (o :: rest) a (W.alloc (.cells #[.string (bs y)] 9)) := by
 obtain ⟨i, hi, hzz⟩ := Option.map_eq_some_iff.1 infoStr
 simp only [Prod.mk.injEq] at hzz
 obtain ⟨hz, hsz, hb⟩ := hzz
 refine wpList_append_lies (W.alloc (.cells #[.string (bs y)] 9)) hgd s x 75 ho B 9 i (.string ⟨#[]⟩) 1 16 Tryz.underlying75 hi hz hsz hb rfl (by omega) v l.length (l.map fun x => .string (bs x)) hs (World.ownsRow.alloc hown _)
  ⟨W.heap.size, 0, none⟩ 1 1 [.string (bs y)] hx rfl ?_ ?_ (by omega) (by unfold maxLen; omega) (by omega) (by simp; omega) _ rfl ?_
 ·intro j u hu
  exact World.news_of_block (heap_alloc_new W _) j u hu
 ·intro u hu
  simp at hu
  subst hu
  rfl
 ·intro g cap w' h1 h2 h3 h4
  refine h g cap w' ?_ ?_ ?_
  ·unfold Ost
   simpa using h1
  ·have k1 : Kept (fun k => v.ownBlock = some k) W (W.alloc (.cells #[.string (bs y)] 9)) := (Kept.refl _ W).alloc _
   exact k1.trans ⟨h2.os, h2.tape, h2.output, h2.size, fun k hk hn => h2.block k hk (fun e => hn e.symm)⟩
  ·rcases h3 with h3 | h3
   ·exact .inl h3
   ·exact .inr (by rw [h3]; simp)
end Ap4
namespace Ss10
open Go.RowKit
open Nd0 Nd3 Tm0 Tx0 Tx2 Tx3 Tx4 Ss0 Ss1 Ss2 Ss8 Ss9 Ap4
open Tm8 (down_of)
open Sp4 (sTermOk)
open Ws1 (ret_bool)
theorem showTo_get (l : List Nd) {k i : Nat} (hi : i < (showTo l k).length) (hk : k <= l.length) : (showTo l k)[i] = X l i := by
 have hi' : i < k := by rw [showTo_length] at hi; exact hi
 unfold X
 rw [show_prefix l (k := k) (n := l.length) hi' hk, txt_nat, List.getD_eq_getElem?_getD, List.getElem?_eq_getElem hi]; rfl
theorem showTo_short {l : List Nd} (hT : termOk l = true) {k : Nat} (hk : k <= l.length) : ∀ t ∈ showTo l k, t.length <= 4000 := by
 intro t ht
 obtain ⟨i, hi, rfl⟩ := List.getElem_of_mem ht
 have hi' : i < k := by rw [showTo_length] at hi; exact hi
 rw [showTo_get l hi hk]
 exact X_len (term_all hT) (down_of hT) (by omega)
def hasB (l : List Nd) : Bool := decide (¬ (showL l).length = 0)
theorem show_no {l : List Nd} (h : termOk l = false) : showL l = [] := by unfold showL; rw [h]; rfl
end Ss10
namespace Ic3
open Go.RowKit
open Nd0 Nd3 Tm0 Tx0 Tx1 Ss0 Ss1 Ss8 Ss10 Tb0 Tb1
def IShowTerm : Prop := ∀ (w : World) (a : Option Addr) (l : List Nd) (c : Nat), Tabs w -> Nodes w a l -> l.length <= c -> l.length <= 1048576 →
 Calls Tryz.prog 25 #[.slice a l.length c] w fun e w' => e = .returned (.tuple #[.string (bs (showL l)), .bool (hasB l)]) /\ Below w.heap.size w w'
def RPost (w : World) (s : List UInt8) (e : Ending) (w' : World) : Prop :=
 ∃ (a : Option Addr) (c : Nat), e = .returned (.tuple #[.slice a (readL s).1.length c, .int .i64 (readL s).2.1, .int .i64 (readL s).2.2]) /\ WNodes w' w.heap.size a (readL s).1 /\ Below w.heap.size w w' /\ (readL s).1.length <= c
def IReadTerm : Prop := ∀ (w : World) (S : ByteArray), TabR w -> S.size <= 2097152 -> Calls Tryz.prog 26 #[.string S] w (RPost w (tl S))
end Ic3
namespace Pt3
open Go.RowKit
open Nd0 Nd3 Tm0 Tx0 Tx1 Ss0 Ss1 Ss8 Ss10 Tb0 Tb1 Ic3
open Ws1 (ret_int ret_bool)
theorem wnodes_mono {w : World} {B B' : Nat} {a : Option Addr} {l : List Nd} (h : WNodes w B' a l) (hb : B <= B') : WNodes w B a l := by
 refine ⟨h.1, ?_⟩
 rcases h.2 with h0 | ⟨b, o, ha, hB, hc⟩
 ·exact .inl h0
 ·exact .inr ⟨b, o, ha, Nat.le_trans hb hB, hc⟩
end Pt3
namespace Pt4
open Go.RowKit
open Nd0 Nd3 Tm0 Tx0 Tx1 Ss0 Ss1 Ss8 Ss10 Tb0 Tb1 Ic3
open Ws1 (ret_int ret_bool)
open Pt3
def ICanonC : Prop := ∀ (w : World) (a : Option Addr) (l : List Nd) (c : Nat), TabR w -> Nodes w a l -> l.length <= c -> l.length <= 1048576 →
 Calls Tryz.prog 10 #[.slice a l.length c] w fun e w' => (∃ a' c', e = .returned (.slice a' (canonL l).length c') /\ WNodes w' w.heap.size a' (canonL l) /\ (canonL l).length <= c') /\ Below w.heap.size w w'
theorem iCanonC (hST : IShowTerm) (hRT : IReadTerm) : ICanonC := by
 intro w a l c hT hN hc hl
 have HST : Hid IShowTerm := hST
 have HRT : Hid IReadTerm := hRT
 have HT : Hid (TabR w) := hT
 have HN : Hid (Nodes w a l) := hN
 clear hN hT hST hRT
 go_enter Tryz.func10, Tryz.ntmps10
 go_wp2_with fail
 refine (HST.out _ a l c HT.out.tabs HN.out hc hl).mono ?_
 rintro e w1 ⟨rfl, hb1⟩
 have HB1 : Hid (Below w.heap.size w w1) := hb1
 clear hb1
 by_cases he : (showL l).length = 0
 ·have HC : Hid (canonL l = []) := by show _ = _; unfold canonL; rw [if_pos he]
  have hh : hasB l = false := by unfold hasB; exact decide_eq_false (fun h => h he)
  rw [hh]
  clear he hh
  go_wp2
  go_ret
  exact ⟨⟨_, _, by rw [HC.out]; rfl, by rw [HC.out]; exact ⟨Nat.zero_le _, .inl rfl⟩, by rw [HC.out]; exact Nat.zero_le _⟩, HB1.out.alloc HB1.out.size _⟩
 ·have HC : Hid (canonL l = (readL (showL l)).1) := by show _ = _; unfold canonL; rw [if_neg he]
  have hh : hasB l = true := by unfold hasB; exact decide_eq_true he
  rw [hh]
  have hsz : (bs (showL l)).size <= 2097152 := by
   rw [bs_size]
   cases hT : termOk l
   ·rw [show_no hT]; simp
   ·have := Tx4.show_len hT; omega
  clear he hh
  go_wp2_with fail
  refine (HRT.out _ _ (HT.out.below HB1.out) hsz).mono ?_
  rw [tl_bs]
  rintro e w2 ⟨a2, c2, rfl, hn2, hb2, hcp2⟩
  have HN2 : Hid (WNodes w2 w1.heap.size a2 (readL (showL l)).1) := hn2
  have HB2 : Hid (Below w.heap.size w w2) := HB1.out.trans (hb2.mono HB1.out.size)
  have hs1 : w.heap.size <= w1.heap.size := HB1.out.size
  clear hn2 hb2
  go_wp2
  go_ret
  exact ⟨⟨a2, c2, by rw [HC.out]; rfl, by rw [HC.out]; exact wnodes_mono HN2.out hs1, by rw [HC.out]; exact hcp2⟩, HB2.out⟩
end Pt4
namespace Nd2
open Go.RowKit
open Nd0 Nd1
end Nd2
namespace Nd4
open Go.RowKit
open Nd0 Nd1 Nd3
end Nd4
namespace Nd5
open Go.RowKit
open Nd0 Nd3
end Nd5
namespace Lx7
open Go.RowKit
open Nd0 Nd1 Nd2 Nd3 Nd4 Nd5 Tm0 Tx0 Tx1 Tx4 Ss0 Ss1 Ss8 Ss10 Tb0 Tb1 Ic3
open Ws1 (ret_int ret_bool)
theorem put_short {t t' : List Nd} {n : Nd} {q i : Nat} (h : putL t n q = .ok (t', i)) (ht : t.length <= 80) : t'.length <= 80 := by
 unfold putL at h
 split at h
 ·cases h; exact ht
 ·split at h
  ·split at h
   ·cases h
   ·cases h; simp; omega
  ·cases h
def Short (f : Nat) : Prop := ∀ (st st' : Rd) (i : Nat), rdL f st = .ok (st', i) -> st.t.length <= 80 -> st'.t.length <= 80
theorem parts_short {f : Nat} (hf : Short f) (p0 : Nat) : ∀ (c : Nat) (st s2 : Rd) (is : List Nat), partsL (rdL f) p0 c st = .ok (s2, is) -> st.t.length <= 80 -> s2.t.length <= 80 := by
 intro c
 induction c with
 | zero => intro st s2 is h ht; simp only [partsL] at h; cases h; exact ht
 | succ c ih =>
   intro st s2 is h ht
   simp only [partsL] at h
   split at h
   ·cases h
   ·rename_i s1 hb
    split at h
    ·cases h
    ·rename_i s3 i hr
     split at h
     ·cases h
     ·rename_i s4 js hp
      cases h
      obtain ⟨_, _, a3⟩ := blank_some hb
      exact ih _ _ _ hp (hf _ _ _ hr (by rw [a3]; exact ht))
theorem rd_short : ∀ f, Short f := by
 intro f
 induction f with
 | zero => intro st st' i h; cases h
 | succ f ih =>
   intro st st' i h ht
   simp only [rdL] at h
   split at h
   ·unfold innerL at h
    split at h
    ·cases h
    ·split at h
     ·cases h
     ·rename_i s1 n hn
      split at h
      ·cases h
      ·rename_i s2 is hp
       split at h
       ·cases h
       ·split at h
        ·split at h
         ·cases h
         ·rename_i t j hput
          cases h
          obtain ⟨x, _, _, e3, _⟩ := nums_local hn
          exact put_short hput (parts_short ih st.p _ s1 s2 is hp (by rw [e3]; exact ht))
        ·cases h
   ·unfold leafL at h
    split at h
    ·split at h
     ·cases h
     ·rename_i hput
      cases h; exact put_short hput ht
    ·split at h
     ·split at h
      ·cases h
      ·rename_i hput
       cases h; exact put_short hput ht
     ·cases h
theorem read_le (s : List UInt8) : (readL s).1.length <= 80 := by
 unfold readL
 split
 ·exact Nat.zero_le _
 ·split
  ·exact Nat.zero_le _
  ·rename_i st i hr
   have := rd_short _ _ _ _ hr (by simp)
   split
   ·simp only; rw [List.length_take]; omega
   ·exact Nat.zero_le _
theorem canon_le (l : List Nd) : (canonL l).length <= 80 := by
 unfold canonL
 split
 ·exact Nat.zero_le _
 ·exact read_le _
end Lx7
namespace Pg1
open Go.RowKit
open Nd0 Tm0 Tm5 Pl1 Ap0
open Ws1 (ret_int ret_bool)
def cnt (op : Int) : Nat := if op = 2 \/ op = 17 \/ op = 19 \/ op = 20 then 1 else if 3 <= op /\ op <= 16 then 2 else if op = 18 then 3 else 0
theorem cnt_parts (n : Nd) : (parts n).length = cnt n.op := by
 unfold parts cnt; split
 ·rfl
 ·split
  ·rfl
  ·split <;> rfl
theorem cnt_le (op : Int) : cnt op <= 3 := by unfold cnt; split; omega; split; omega; split <;> omega
def numbered (op : Int) : Bool := op == 0 || op == 1 || op == 17 || quant op
theorem iWidthOk (m : Int) (w : World) :
 Calls Tryz.prog 24 #[.int .i64 m] w fun e w' => e = .returned (.bool (decide (1 <= m /\ m <= 8))) /\ w' = w := by
 by_cases h1 : 1 <= m <;> by_cases h2 : m <= 8
 all_goals
  go_enter Tryz.func24, Tryz.ntmps24
  go_wp2
  go_ret
  exact ⟨ret_bool (by simp <;> omega), rfl⟩
theorem iWordOk (m a : Int) (w : World) :
 Calls Tryz.prog 9 #[.int .i64 m, .int .i64 a] w fun e w' => e = .returned (.bool (wok m a)) /\ w' = w := by
 by_cases h : 1 <= m /\ m <= 8
 ·have hd : decide (1 <= m /\ m <= 8) = true := by simpa using h
  by_cases ha : 0 <= a
  all_goals
   go_enter Tryz.func9, Tryz.ntmps9
   go_wp2_with (go_at_call 24; refine (iWidthOk _ _).mono ?_; rintro e w' ⟨rfl, rfl⟩)
   go_ret
   exact ⟨ret_bool (by rw [Bool.eq_iff_iff]; try rw [wrap_p2 _ (by omega)]
                       simp [wok]; omega), rfl⟩
 ·have hd : decide (1 <= m /\ m <= 8) = false := by simpa using h
  go_enter Tryz.func9, Tryz.ntmps9
  go_wp2_with (go_at_call 24; refine (iWidthOk _ _).mono ?_; rintro e w' ⟨rfl, rfl⟩)
  go_ret
  exact ⟨ret_bool (by unfold wok; symm; rw [decide_eq_false_iff_not]; omega), rfl⟩
theorem iVarOk (m : Int) (w : World) :
 Calls Tryz.prog 74 #[.int .i64 m] w fun e w' => e = .returned (.bool (decide (0 <= m /\ m <= 7))) /\ w' = w := by
 by_cases h1 : 0 <= m <;> by_cases h2 : m < 8
 all_goals
  go_enter Tryz.func74, Tryz.ntmps74
  go_wp2
  go_ret
  exact ⟨ret_bool (by simp <;> omega), rfl⟩
theorem iQuant (op : Int) (w : World) :
 Calls Tryz.prog 54 #[.int .i64 op] w fun e w' => e = .returned (.bool (quant op)) /\ w' = w := by
 cases h1 : (op == 19) <;> cases h2 : (op == 20)
 all_goals
  go_enter Tryz.func54, Tryz.ntmps54
  go_wp2
  go_ret
  exact ⟨ret_bool (by unfold quant; rw [h1, h2]; rfl), rfl⟩
theorem iNumbered (op : Int) (w : World) :
 Calls Tryz.prog 73 #[.int .i64 op] w fun e w' => e = .returned (.bool (numbered op)) /\ w' = w := by
 cases h1 : (op == 0) <;> cases h2 : (op == 1) <;> cases h3 : (op == 17)
 all_goals
  go_enter Tryz.func73, Tryz.ntmps73
  go_wp2_with (go_at_call 54; refine (iQuant _ _).mono ?_; rintro e w' ⟨rfl, rfl⟩)
  go_ret
  exact ⟨ret_bool (by unfold numbered; rw [h1, h2, h3]; rfl), rfl⟩
theorem iCount (op : Int) (w : World) :
 Calls Tryz.prog 43 #[.int .i64 op] w fun e w' => e = .returned (.int .i64 (cnt op : Int)) /\ w' = w := by
 have HC : Hid (∀ k : Nat, cnt op = k -> (k : Int) = (cnt op : Int)) := fun k h => by rw [h]
 have q1 : (op == 2) = false -> (op == 17) = false -> quant op = false -> ¬ (op = 2 \/ op = 17 \/ op = 19 \/ op = 20) := by
  intro a b c; simp [quant] at a b c; omega
 have HQ : Hid ((op == 2) = false -> (op == 17) = false -> quant op = false -> ¬ (op = 2 \/ op = 17 \/ op = 19 \/ op = 20)) := q1
 have HR : Hid ((op == 2) = true \/ (op == 17) = true \/ quant op = true -> (op = 2 \/ op = 17 \/ op = 19 \/ op = 20)) := by
  show _ -> _
  rintro (a | a | a)
  ·simp at a; omega
  ·simp at a; omega
  ·simp [quant] at a; omega
 clear q1
 cases h1 : (op == 2)
 ·cases h2 : (op == 17)
  ·cases h3 : quant op
   ·have HN := HQ.out h1 h2 h3
    have HN' : Hid (¬ (op = 2 \/ op = 17 \/ op = 19 \/ op = 20)) := HN
    clear HN
    by_cases h4 : 3 <= op
    ·by_cases h5 : op <= 16
     ·have HE : Hid (cnt op = 2) := by
       show cnt op = 2
       unfold cnt; rw [if_neg HN'.out, if_pos ⟨h4, h5⟩]
      go_enter Tryz.func43, Tryz.ntmps43
      go_wp2_with (go_at_call 54; refine (iQuant _ _).mono ?_; rintro e w' ⟨rfl, rfl⟩)
      go_ret
      exact ⟨ret_int (HC.out 2 HE.out), rfl⟩
     ·cases h6 : (op == 18)
      ·have HE : Hid (cnt op = 0) := by
        show cnt op = 0
        unfold cnt; rw [if_neg HN'.out, if_neg (by omega), if_neg (by simpa using h6)]
       go_enter Tryz.func43, Tryz.ntmps43
       go_wp2_with (go_at_call 54; refine (iQuant _ _).mono ?_; rintro e w' ⟨rfl, rfl⟩)
       go_ret
       exact ⟨ret_int (HC.out 0 HE.out), rfl⟩
      ·have HE : Hid (cnt op = 3) := by
        show cnt op = 3
        unfold cnt; rw [if_neg HN'.out, if_neg (by omega), if_pos (by simpa using h6)]
       go_enter Tryz.func43, Tryz.ntmps43
       go_wp2_with (go_at_call 54; refine (iQuant _ _).mono ?_; rintro e w' ⟨rfl, rfl⟩)
       go_ret
       exact ⟨ret_int (HC.out 3 HE.out), rfl⟩
    ·have h6 : (op == 18) = false := by simp; omega
     have HE : Hid (cnt op = 0) := by
      show cnt op = 0
      unfold cnt; rw [if_neg HN'.out, if_neg (by omega), if_neg (by omega)]
     go_enter Tryz.func43, Tryz.ntmps43
     go_wp2_with (go_at_call 54; refine (iQuant _ _).mono ?_; rintro e w' ⟨rfl, rfl⟩)
     go_ret
     exact ⟨ret_int (HC.out 0 HE.out), rfl⟩
   ·have HE : Hid (cnt op = 1) := by
     show cnt op = 1
     unfold cnt; rw [if_pos (HR.out (.inr (.inr h3)))]
    go_enter Tryz.func43, Tryz.ntmps43
    go_wp2_with (go_at_call 54; refine (iQuant _ _).mono ?_; rintro e w' ⟨rfl, rfl⟩)
    go_ret
    exact ⟨ret_int (HC.out 1 HE.out), rfl⟩
  ·have HE : Hid (cnt op = 1) := by
    show cnt op = 1
    unfold cnt; rw [if_pos (HR.out (.inr (.inl h2)))]
   go_enter Tryz.func43, Tryz.ntmps43
   go_wp2_with (go_at_call 54; refine (iQuant _ _).mono ?_; rintro e w' ⟨rfl, rfl⟩)
   go_ret
   exact ⟨ret_int (HC.out 1 HE.out), rfl⟩
 ·have HE : Hid (cnt op = 1) := by
   show cnt op = 1
   unfold cnt; rw [if_pos (HR.out (.inl h1))]
  go_enter Tryz.func43, Tryz.ntmps43
  go_wp2_with (go_at_call 54; refine (iQuant _ _).mono ?_; rintro e w' ⟨rfl, rfl⟩)
  go_ret
  exact ⟨ret_int (HC.out 1 HE.out), rfl⟩
end Pg1
namespace Lv1
open Go.RowKit
open Nd0 Nd3 Tm0 Tm3 Tm6 Pl1 Tx0 Vl1 Vl2 Vl3 Ic4 Dw0 Dw5 Dw8 Dw9 Lw4
open Dr0 (Cur Only Bytes Off)
open Tb1 (TabR)
open Pt4 (ICanonC)
open Lx7 (canon_le)
open Lx4 (IPrune)
open Sv6 (vRes sValue)
open Pg1 (iWordOk)
open Ws1 (ret_int ret_bool)
theorem lawValues (hVA : IValue) (hPR : IPrune) (hCA : ICanonC) (w : World) (wT : TabR w) (a : Option Addr) (len cap : Nat) (hb : Bytes w a len) :
 Calls Tryz.prog 3 #[.slice a len cap] w fun e w' => e = .returned (.bool true) /\ Below w.heap.size w w' := by
 have HB : Hid (Bytes w a len) := hb
 have HVA : Hid IValue := hVA
 have HPR : Hid IPrune := hPR
 have HCA : Hid ICanonC := hCA
 have HTB : Hid (TabR w) := wT
 clear hb hVA hPR hCA wT
 by_cases hs : 1048576 < len
 ·go_enter Tryz.func3, Tryz.ntmps3
  go_wp2_with fail
  refine (lbig _ a len cap true (by simp; omega)).mono ?_
  rintro e w' ⟨rfl, rfl⟩
  go_wp2
  go_ret
  exact ⟨rfl, Below.refl _ _⟩
 go_enter Tryz.func3, Tryz.ntmps3
 go_wp2_with fail
 refine (lbig _ a len cap false (by simp; omega)).mono ?_
 rintro e w0 ⟨rfl, rfl⟩
 go_wp2_with fail
 refine (drawValue2 _ a len cap HB.out).mono ?_
 rintro e w1 ⟨g, c, L, ge, ce, E, rfl, hn, hb1, hl1, hl2, hcL, hi, hel, hce⟩
 have HCL : Hid (L.length <= c) := hcL
 have HN1 : Hid (Nodes w1 (some ⟨g, 0, none⟩) L) := hn
 have HB1 : Hid (Below w0.heap.size w0 w1) := hb1
 have HI1 : Hid (Ints w1 (some ⟨ge, 0, none⟩) E) := hi
 have HCE : Hid (E.length <= ce) := hce
 have HEL : Hid (E.length = 7 \/ E.length = 8) := hel
 clear hn hb1 hcL hi hel hce
 go_wp2_with fail
 refine (HVA.out w1 _ _ L E c ce HN1.out HCL.out (by omega) HI1.out HCE.out).mono ?_
 rintro e w2 ⟨rfl, hb2⟩
 have HN2 : Hid (Nodes w2 (some ⟨g, 0, none⟩) L) := HN1.out.below hb2
 have HI2 : Hid (Ints w2 (some ⟨ge, 0, none⟩) E) := HI1.out.below hb2
 have HB2 : Hid (Below w0.heap.size w0 w2) := HB1.out.trans (hb2.mono HB1.out.size)
 clear hb2 HN1 HI1 HB1
 go_wp2_with fail
 refine (sValue w2 _ _ L E c ce HN2.out HI2.out).mono ?_
 rintro e w3 ⟨rfl, hb3⟩
 have HN3 : Hid (Nodes w3 (some ⟨g, 0, none⟩) L) := HN2.out.below hb3
 have HI3 : Hid (Ints w3 (some ⟨ge, 0, none⟩) E) := HI2.out.below hb3
 have HB3 : Hid (Below w0.heap.size w0 w3) := HB2.out.trans (hb3.mono HB2.out.size)
 clear hb3 HN2 HI2 HB2
 unfold vRes
 cases hV : valueL L E with
 | none =>
   simp only [Option.getD_none, Option.isSome_none]
   go_wp2
   go_ret
   exact ⟨rfl, HB3.out⟩
 | some x =>
   simp only [Option.getD_some, Option.isSome_some]
   have hxx : (x != x) = false := by simp
   have HV : Hid (valueL L E = some x) := hV
   obtain ⟨hT, _⟩ := value_parts.1 hV
   have HVP : Hid (valueL (pruneL L) E = some x) := by
    show _ = _
    rw [value_prune hT]; exact hV
   have HW : Hid (wok (nth L (L.length - 1)).w x = true) := value_wok hV
   clear hV
   go_wp2_with fail
   refine (HPR.out w3 _ L c HN3.out HCL.out (by omega)).mono ?_
   rintro e w4 ⟨⟨a4, c4, rfl, hp4, hc4⟩, hb4⟩
   have HP4 : Hid (Nodes w4 a4 (pruneL L)) := hp4.nodes
   have HC4 : Hid ((pruneL L).length <= c4) := hc4
   have hpl := pruneL_le L
   have HN4 : Hid (Nodes w4 (some ⟨g, 0, none⟩) L) := HN3.out.below hb4
   have HI4 : Hid (Ints w4 (some ⟨ge, 0, none⟩) E) := HI3.out.below hb4
   have HB4 : Hid (Below w0.heap.size w0 w4) := HB3.out.trans (hb4.mono HB3.out.size)
   clear hp4 hc4 hb4 HN3 HI3 HB3
   have hc5 := HVA.out w4 a4 _ (pruneL L) E c4 ce HP4.out HC4.out (by omega) HI4.out HCE.out
   have hE8 : E.length = 8 := by first | assumption | omega
   rw [HVP.out, hE8] at hc5
   simp only [Option.getD_some, Option.isSome_some] at hc5
   generalize hPL : (pruneL L).length = pl at hc5 hpl ⊢
   clear hPL
   go_wp2_with fail
   with_reducible refine hc5.mono ?_
   rintro e w5 ⟨rfl, hb5⟩
   have HN5 : Hid (Nodes w5 (some ⟨g, 0, none⟩) L) := HN4.out.below hb5
   have HI5 : Hid (Ints w5 (some ⟨ge, 0, none⟩) E) := HI4.out.below hb5
   have HB5 : Hid (Below w0.heap.size w0 w5) := HB4.out.trans (hb5.mono HB4.out.size)
   clear hb5 hc5 HN4 HI4 HB4 HP4
   rcases HN5.out.2 with h0 | ⟨b', o', he, hcn⟩
   ·omega
   cases he
   have p1 := (hcn (L.length - 1) (by omega)).c1
   rw [nth_get (by omega : L.length - 1 < L.length), Nat.zero_add] at p1
   clear hcn
   have g1 : (0 : Int) <= (L.length : Int) - 1 := by omega
   have g2 : (L.length : Int) - 1 < (L.length : Int) := by omega
   have g3 : IntKind.i64.wrap ((L.length : Int) - 1) = (L.length : Int) - 1 := by rw [IntKind.wrap_i64] <;> omega
   generalize (nth L (L.length - 1)).w = rw9 at p1 HW
   have HWO : Hid (∀ W, Calls Tryz.prog 9 #[.int .i64 rw9, .int .i64 x] W fun e w' => e = .returned (.bool true) /\ w' = W) := fun W => (iWordOk rw9 x W).mono (fun e w' h => ⟨by rw [h.1, HW.out], h.2⟩)
   by_cases h0 : (canonL L).length = 0
   ·go_wp2_with (first | (go_at_call 9; refine (HWO.out _).mono ?_; rintro e w' ⟨rfl, hw'⟩; have hw'' := hw'.symm; clear hw'; subst hw'') | (go_at_call 10; refine (HCA.out w5 _ L c (HTB.out.below HB5.out) HN5.out HCL.out (by omega)).mono ?_; rintro e w6 ⟨⟨a6, c6, rfl, hu6, hc6⟩, hb6⟩; have HC6 : Hid ((canonL L).length <= c6) := hc6; have HU6 : Hid (WNodes w6 w5.heap.size a6 (canonL L)) := hu6; have HI6 : Hid (Ints w6 (some ⟨ge, 0, none⟩) E) := HI5.out.below hb6; have HB6 : Hid (Below w0.heap.size w0 w6) := HB5.out.trans (hb6.mono HB5.out.size); clear hu6 hb6 hc6))
    go_ret
    exact ⟨rfl, HB6.out⟩
   ·have hcl := canon_le L
    have hne : canonL L ≠ [] := fun h => h0 (by rw [h]; rfl)
    have hE8 : E.length = 8 := by first | assumption | omega
    go_wp2_with (first | (go_at_call 9; refine (HWO.out _).mono ?_; rintro e w' ⟨rfl, hw'⟩; have hw'' := hw'.symm; clear hw'; subst hw'') | (go_at_call 10; refine (HCA.out w5 _ L c (HTB.out.below HB5.out) HN5.out HCL.out (by omega)).mono ?_; rintro e w6 ⟨⟨a6, c6, rfl, hu6, hc6⟩, hb6⟩; have HC6 : Hid ((canonL L).length <= c6) := hc6; have HU6 : Hid (WNodes w6 w5.heap.size a6 (canonL L)) := hu6; have HI6 : Hid (Ints w6 (some ⟨ge, 0, none⟩) E) := HI5.out.below hb6; have HB6 : Hid (Below w0.heap.size w0 w6) := HB5.out.trans (hb6.mono HB5.out.size); clear hu6 hb6 hc6))
    have hc7 := HVA.out w6 a6 _ (canonL L) E c6 ce HU6.out.nodes HC6.out (by omega) HI6.out HCE.out
    rw [value_canon HV.out hne, hE8] at hc7
    simp only [Option.getD_some, Option.isSome_some] at hc7
    generalize (canonL L).length = nc at h0 hc7 hcl ⊢
    clear hne
    with_reducible refine hc7.mono ?_
    rintro e w7 ⟨rfl, hb7⟩
    have HB7 : Hid (Below w0.heap.size w0 w7) := HB6.out.trans (hb7.mono HB6.out.size)
    clear hb7 hc7
    go_wp2
    go_ret
    first | exact ⟨rfl, HB7.out⟩ | exact ⟨ret_bool (by simp), HB7.out⟩
end Lv1
namespace Px0
open Nd0 Tm0 Tx0 Tx1 Tx5
abbrev Er := Int × Nat
def pNeed (s : List UInt8) (c : UInt8) (st p : Nat) : Except Er Nat := if s[p]? = some c then .ok (p + 1) else .error (2, st)
def pDig (s : List UInt8) (p : Nat) : List UInt8 := (s.drop p).takeWhile isDig
def pNum (s : List UInt8) (st p : Nat) : Except Er (Nat × Nat) :=
 match numL (pDig s p) with
 | some k => .ok (k, p + (pDig s p).length)
 | none => .error (2, st)
def pEnd (s : List UInt8) (st p : Nat) : Except Er Nat := if s[p]? = none \/ s[p]? = some 32 \/ s[p]? = some 41 then .ok p else .error (2, st)
def pPair (s : List UInt8) (c : UInt8) (st p : Nat) : Except Er ((Nat × Nat) × Nat) :=
 (pNeed s c st p).bind fun p1 => (pNum s st p1).bind fun x => (pNeed s 58 st x.2).bind fun p3 => (pNum s st p3).bind fun y => (pEnd s st y.2).bind fun q => .ok ((x.1, y.1), q)
def pWord (s : List UInt8) (p : Nat) : List UInt8 := (s.drop p).takeWhile (fun c => c != 32)
def opP (w : List UInt8) : Option Nat := (List.range 19).find? (fun i => decide (opTab.getD (i + 2) [] = w)) |>.map (· + 2)
def pOp (s : List UInt8) (st p : Nat) : Except Er (Nat × Nat) :=
 (pNeed s 40 st p).bind fun p1 => match opP (pWord s p1) with
  | some o => .ok (o, p1 + (pWord s p1).length)
  | none => .error (2, st)
def pNums (s : List UInt8) (o st p : Nat) : Except Er (Nd × Nat) :=
 if o = 17 then (pNeed s 32 st p).bind fun p1 => (pNum s st p1).bind fun x => (pNeed s 32 st x.2).bind fun p3 => (pNum s st p3).bind fun y => .ok (⟨o, y.1, x.1, 0, 0, 0⟩, y.2)
 else if o = 19 \/ o = 20 then (pNeed s 32 st p).bind fun p1 => (pPair s 118 st p1).bind fun x => .ok (⟨o, 0, x.1.1, 0, x.1.2, 0⟩, x.2)
 else .ok (⟨o, 0, 0, 0, 0, 0⟩, p)
def pWid (t : List Nd) (n : Nd) : Int :=
 if 2 <= n.op /\ n.op <= 12 then (nth t n.a.toNat).w
 else if n.op = 16 then (nth t n.a.toNat).w + (nth t n.b.toNat).w
 else if n.op = 17 then n.w
 else if n.op = 18 then (nth t n.b.toNat).w
 else 1
abbrev St := Nat × List Nd
def pMany (s : List UInt8) (rd : St -> Except Er (Nat × St)) (st : Nat) : Nat -> St -> Except Er (List Nat × St)
 | 0, x => .ok ([], x)
 | k + 1, x => (pNeed s 32 st x.1).bind fun p1 => (rd (p1, x.2)).bind fun y => (pMany s rd st k y.2).bind fun z => .ok (y.1 :: z.1, z.2)
def setParts (n : Nd) (is : List Nat) : Nd := ⟨n.op, n.w, n.k, (is.getD 0 0 : Nat), if 1 < is.length then ((is.getD 1 0 : Nat) : Int) else n.b, (is.getD 2 0 : Nat)⟩
def pParts (s : List UInt8) (rd : St -> Except Er (Nat × St)) (n : Nd) (st : Nat) (x : St) : Except Er (Nd × St) :=
 (pMany s rd st (parts n).length x).bind fun y => (pNeed s 41 st y.2.1).bind fun p => .ok (setParts n y.1, (p, y.2.2))
def pPut (st : Nat) (p : Nat) (t : List Nd) (n : Nd) : Except Er (Nat × St) := (putL t n st).bind fun x => .ok (x.2, (p, x.1))
def pNode (s : List UInt8) : Nat -> St -> Except Er (Nat × St)
 | 0, x => .error (2, x.1)
 | f + 1, x =>
   if s[x.1]? = some 35 then (pPair s 35 x.1 x.1).bind fun y => pPut x.1 y.2 x.2 ⟨0, y.1.1, y.1.2, 0, 0, 0⟩
   else if s[x.1]? = some 118 then (pPair s 118 x.1 x.1).bind fun y => pPut x.1 y.2 x.2 ⟨1, y.1.2, y.1.1, 0, 0, 0⟩
   else (pOp s x.1 x.1).bind fun o => (pNums s o.1 x.1 o.2).bind fun y => (pParts s (pNode s f) y.1 x.1 (y.2, x.2)).bind fun z =>
    pPut x.1 z.2.1 z.2.2 { z.1 with w := pWid z.2.2 z.1 }
def pRead (s : List UInt8) : List Nd × Int × Int :=
 if 4000 < s.length then ([], 1, 0) else
 match pNode s (s.length + 1) (0, []) with
 | .error x => ([], x.1, x.2)
 | .ok y => if y.2.1 < s.length then ([], 5, y.2.1) else (y.2.2, 0, 0)
end Px0
end Go.Proofs.YtiaimhgfimhepaaGreatDoor

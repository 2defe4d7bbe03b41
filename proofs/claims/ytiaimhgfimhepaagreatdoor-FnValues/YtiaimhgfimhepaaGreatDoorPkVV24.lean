import Derived.WalkSmall
import Derived.WalkLawsBesides
import Derived.Shelf.Strings.Builder1
import Derived.Shelf.Strings.Builder2
import Derived.Shelf.Strings.OnBuilder
import Derived.Shelf.Strconv.Atoi
import Derived.Shelf.Strconv.Itoa0
import Derived.Shelf.Strconv.Itoa1
import Derived.Shelf.LaysM
import Derived.Shelf.Strconv.Itoa2
import Derived.Shelf.Strconv.Itoa3
import Derived.Shelf.Strconv.AtoiErrFast
import Derived.Shelf.Strconv.ParseIntEmpty
import Derived.Shelf.Strconv.AtoiFail
import Derived.Shelf.Strconv.Clone
import Derived.Shelf.Strconv.SyntaxError
import Derived.Shelf.LaysC
import Derived.Shelf.Strconv.ToError
import Derived.Shelf.Strconv.Lower
import Derived.Shelf.Strconv.ParseUint10
import Derived.Shelf.Strconv.ParseUint10Empty
import Derived.Shelf.Strconv.ParseUint10Any
import Derived.Shelf.Strconv.ParseInt10
import Derived.Shelf.Strconv.AtoiLong
import Derived.Shelf.Strconv.AtoiInnerAll
import Derived.Shelf.Strconv.RangeError
import Derived.Shelf.Strconv.ToErrorRange
import Derived.Shelf.Strconv.AtoiAll
import Derived.Shelf.Strings.Search1
import Derived.Shelf.Strings.Search2
import Derived.Shelf.Strings.Cut
import Derived.Shelf.Strings.Shaped
import Derived.Test.YtiaimhgfimhepaaGreatDoorProg
import Derived.Deep.RegionHeld
import Derived.Test.YtiaimhgfimhepaaGreatDoorPkVV23
namespace Go.Proofs.YtiaimhgfimhepaaGreatDoor
set_option maxRecDepth 100000
set_option maxHeartbeats 8000000
set_option linter.unusedVariables false
namespace Pr1
open Go.RowKit
open Nd0 Nd3 Tm0 Tx0 Tx1 Ss0 Ss1 Tb0 Px0
open Ss3 (kept_set)
open Ss5 (Kb)
open Ws1 (ret_int ret_bool)
def fl (x : Er) : PanicEntry := { v := .iface 78 (.agg #[.int .i64 x.1, .int .i64 x.2]), recovered := false }
theorem iFail (c : Int) (q : Nat) (w : World) :
 Calls Tryz.prog 47 #[.int .i64 c, .int .i64 q] w fun e w' => e = .panicked [fl (c, q)] /\ w' = w := by
 go_enter Tryz.func47, Tryz.ntmps47
 go_wp2
 exact ⟨rfl, rfl, rfl⟩
structure RB (w : World) (b : Nat) (S : ByteArray) (p : Nat) (v : Value) (bm : Nat) : Prop where
 c0 : w.cell? ⟨b, 0, none⟩ = some (.string S)
 c1 : w.cell? ⟨b, 1, none⟩ = some (.int .i64 p)
 c2 : w.cell? ⟨b, 2, none⟩ = some v
 c3 : w.cell? ⟨b, 3, none⟩ = some (.map (some bm))
 f1 : w.frozen? ⟨b, 1, none⟩ = false
 f2 : w.frozen? ⟨b, 2, none⟩ = false
theorem RB.lt {w : World} {b : Nat} {S : ByteArray} {p : Nat} {v : Value} {bm : Nat} (h : RB w b S p v bm) : b < w.heap.size := lt_of_cell (p := ⟨b, 0, none⟩) h.c0
theorem RB.kept {w w' : World} {b : Nat} {S : ByteArray} {p : Nat} {v : Value} {bm : Nat} (h : RB w b S p v bm) {D : Nat -> Prop} (k : Kept D w w') (hd : ¬ D b) : RB w' b S p v bm :=
 ⟨by rw [k.cell h.lt hd]; exact h.c0, by rw [k.cell h.lt hd]; exact h.c1, by rw [k.cell h.lt hd]; exact h.c2, by rw [k.cell h.lt hd]; exact h.c3, by rw [k.frozen h.lt hd]; exact h.f1, by rw [k.frozen h.lt hd]; exact h.f2⟩
theorem RB.below {w w' : World} {b : Nat} {S : ByteArray} {p : Nat} {v : Value} {bm : Nat} (h : RB w b S p v bm) (k : Below w.heap.size w w') : RB w' b S p v bm := h.kept (D := fun _ => False) (Kept.ofBelow k) (fun e => e)
theorem RB.drewN {w : World} {b : Nat} {S : ByteArray} {p : Nat} {v : Value} {bm : Nat} (h : RB w b S p v bm) (m : Nat) : RB (w.drewN m) b S p v bm := ⟨h.c0, h.c1, h.c2, h.c3, h.f1, h.f2⟩
theorem RB.move {w : World} {b : Nat} {S : ByteArray} {p : Nat} {v : Value} {bm : Nat} (h : RB w b S p v bm) (q : Nat) (x : Int) (hx : x = (q : Int)) : RB (w.setCell ⟨b, 1, none⟩ (.int .i64 x)) b S q v bm := by
 subst hx
 exact ⟨by rw [set_other (by simp)]; exact h.c0, set_same h.c1, by rw [set_other (by simp)]; exact h.c2, by rw [set_other (by simp)]; exact h.c3, by simpa using h.f1, by simpa using h.f2⟩
def Out {α : Type} (r : Except Er α) (good : α -> Prop) (bad : Er -> Prop) : Prop := (∀ a, r = .ok a -> good a) /\ (∀ x, r = .error x -> bad x)
theorem Out.ok {α : Type} {r : Except Er α} {good : α -> Prop} {bad : Er -> Prop} {a : α} (h : r = .ok a) (g : good a) : Out r good bad := ⟨fun x hx => (by rw [h] at hx; cases hx; exact g), fun x hx => (by rw [h] at hx; cases hx)⟩
theorem Out.error {α : Type} {r : Except Er α} {good : α -> Prop} {bad : Er -> Prop} {x : Er} (h : r = .error x) (g : bad x) : Out r good bad := ⟨fun a ha => (by rw [h] at ha; cases ha), fun y hy => (by rw [h] at hy; cases hy; exact g)⟩
theorem iDig (c : UInt8) (w : World) : Calls Tryz.prog 139 #[.int .u8 (c.toNat : Int)] w fun e w' => e = .returned (.bool (isDig c)) /\ w' = w := by
 have HD : Hid (isDig c = decide (48 <= c.toNat /\ c.toNat <= 57)) := rfl
 by_cases h1 : (48 : Int) <= (c.toNat : Int)
 ·by_cases h2 : (c.toNat : Int) <= 57
  ·have HE : Hid (isDig c = true) := by show _ = _; rw [HD.out]; simp; omega
   go_enter Tryz.func139, Tryz.ntmps139
   go_wp2
   go_ret
   exact ⟨ret_bool HE.out.symm, rfl⟩
  ·have HE : Hid (isDig c = false) := by show _ = _; rw [HD.out]; simp; omega
   go_enter Tryz.func139, Tryz.ntmps139
   go_wp2
   go_ret
   exact ⟨ret_bool HE.out.symm, rfl⟩
 ·have HE : Hid (isDig c = false) := by show _ = _; rw [HD.out]; simp; omega
  go_enter Tryz.func139, Tryz.ntmps139
  go_wp2
  go_ret
  exact ⟨ret_bool HE.out.symm, rfl⟩
def nx (s : List UInt8) (p : Nat) : UInt8 := s.getD p 0
theorem tl_at {S : ByteArray} {p : Nat} (h : p < S.size) : (tl S)[p]? = some S[p] := by
 rw [List.getElem?_eq_getElem (by rw [tl_length]; exact h)]; rfl
theorem tl_off {S : ByteArray} {p : Nat} (h : S.size <= p) : (tl S)[p]? = none := List.getElem?_eq_none (by rw [tl_length]; exact h)
theorem nx_in {S : ByteArray} {p : Nat} (h : p < S.size) : nx (tl S) p = S[p] := by
 unfold nx; rw [List.getD_eq_getElem?_getD, tl_at h]; rfl
theorem nx_off {S : ByteArray} {p : Nat} (h : S.size <= p) : nx (tl S) p = 0 := by
 unfold nx; rw [List.getD_eq_getElem?_getD, tl_off h]; rfl
theorem iNext (w : World) (b : Nat) (S : ByteArray) (p : Nat) (v : Value) (bm : Nat) (h : RB w b S p v bm) (hs : S.size <= 100000) (hp : p <= S.size) :
 Calls Tryz.prog 64 #[.pointer (some ⟨b, 0, none⟩)] w fun e w' => e = .returned (.int .u8 ((nx (tl S) p).toNat : Int)) /\ Below w.heap.size w w' := by
 obtain ⟨c0, c1, c2, c3, f1, f2⟩ := h
 clear c2 c3 f1 f2
 by_cases hlt : p < S.size
 ·have hpz : (p : Int) < (S.size : Int) := by omega
  have hq : ((p : Int) == (S.size : Int)) = false := by rw [beq_eq_false_iff_ne]; omega
  have HX : Hid (nx (tl S) p = S[p]) := nx_in hlt
  go_enter Tryz.func64, Tryz.ntmps64
  go_wp2
  go_quiet (fail)
  go_wp2
  go_quiet (fail)
  go_wp2
  go_ret
  exact ⟨by rw [HX.out]; rfl, ⟨rfl, rfl, rfl, Nat.le_refl _, fun _ _ => rfl⟩⟩
 ·have hq : ((p : Int) == (S.size : Int)) = true := by rw [beq_iff_eq]; omega
  have HX : Hid (nx (tl S) p = 0) := nx_off (by omega)
  go_enter Tryz.func64, Tryz.ntmps64
  go_wp2
  go_quiet (fail)
  go_wp2
  go_ret
  exact ⟨by rw [HX.out]; rfl, ⟨rfl, rfl, rfl, Nat.le_refl _, fun _ _ => rfl⟩⟩
theorem iNeed (w : World) (b : Nat) (S : ByteArray) (p : Nat) (v : Value) (bm : Nat) (c : UInt8) (st : Nat) (h : RB w b S p v bm) (hs : S.size <= 100000) (hp : p <= S.size) :
 Calls Tryz.prog 94 #[.pointer (some ⟨b, 0, none⟩), .int .u8 (c.toNat : Int), .int .i64 st] w fun e w' => Out (pNeed (tl S) c st p) (fun q => e = .returned (.tuple #[]) /\ RB w' b S q v bm /\ q <= S.size) (fun x => e = .panicked [fl x]) /\ Kb b w w' := by
 have H : Hid (RB w b S p v bm) := h
 obtain ⟨c0, c1, c2, c3, f1, f2⟩ := h
 clear c2 c3 f2
 by_cases hlt : p < S.size
 ·have hpz : (p : Int) < (S.size : Int) := by omega
  have hq : ((p : Int) == (S.size : Int)) = false := by rw [beq_eq_false_iff_ne]; omega
  by_cases hc : S[p] = c
  ·have HP : Hid (pNeed (tl S) c st p = .ok (p + 1)) := by
    show _ = _
    unfold pNeed; rw [tl_at hlt, hc, if_pos rfl]
   have hcq : ((S[p].toNat : Int) != (c.toNat : Int)) = false := by rw [hc]; simp
   clear hc
   go_enter Tryz.func94, Tryz.ntmps94
   go_wp2
   go_quiet (fail)
   go_wp2
   go_end0
   exact ⟨Out.ok HP.out ⟨rfl, (H.out.drewN _).move _ _ (by simp), by omega⟩, kept_set ((Kept.refl _ _).drewN _) _⟩
  ·have HP : Hid (pNeed (tl S) c st p = .error (2, st)) := by
    show _ = _
    unfold pNeed; rw [tl_at hlt, if_neg (fun e => hc (Option.some.inj e))]
   have hcq : ((S[p].toNat : Int) != (c.toNat : Int)) = true := by
    have : S[p].toNat ≠ c.toNat := fun e => hc (UInt8.toNat_inj.1 e)
    simp; omega
   clear hc
   go_enter Tryz.func94, Tryz.ntmps94
   go_wp2
   go_quiet (fail)
   go_wp2_with fail
   refine (iFail _ _ _).mono ?_
   rintro e w' ⟨rfl, rfl⟩
   go_wp2
   exact ⟨rfl, Out.error HP.out rfl, (Kept.refl _ _).drewN _⟩
 ·have hq : ((p : Int) == (S.size : Int)) = true := by rw [beq_iff_eq]; omega
  have HP : Hid (pNeed (tl S) c st p = .error (2, st)) := by
   show _ = _
   unfold pNeed; rw [tl_off (by omega), if_neg (by simp)]
  go_enter Tryz.func94, Tryz.ntmps94
  go_wp2
  go_quiet (fail)
  go_wp2_with fail
  refine (iFail _ _ _).mono ?_
  rintro e w' ⟨rfl, rfl⟩
  go_wp2
  exact ⟨rfl, Out.error HP.out rfl, (Kept.refl _ _).drewN _⟩
theorem iEnd (w : World) (b : Nat) (S : ByteArray) (p : Nat) (v : Value) (bm : Nat) (st : Nat) (h : RB w b S p v bm) (hs : S.size <= 100000) (hp : p <= S.size) :
 Calls Tryz.prog 96 #[.pointer (some ⟨b, 0, none⟩), .int .i64 st] w fun e w' => Out (pEnd (tl S) st p) (fun q => e = .returned (.tuple #[]) /\ q = p) (fun x => e = .panicked [fl x]) /\ ∃ m, w' = w.drewN m := by
 have H : Hid (RB w b S p v bm) := h
 obtain ⟨c0, c1, c2, c3, f1, f2⟩ := h
 clear c2 c3 f1 f2
 by_cases hlt : p < S.size
 ·have hpz : (p : Int) < (S.size : Int) := by omega
  by_cases h1 : S[p] = 32
  ·have HP : Hid (pEnd (tl S) st p = .ok p) := by
    show _ = _
    unfold pEnd; rw [tl_at hlt, h1, if_pos (.inr (.inl rfl))]
   have hcq : ((S[p].toNat : Int) != 32) = false := by rw [h1]; rfl
   clear h1
   go_enter Tryz.func96, Tryz.ntmps96
   go_wp2
   go_quiet (fail)
   go_wp2
   go_end0
   exact ⟨Out.ok HP.out ⟨rfl, rfl⟩, _, rfl⟩
  ·have hcq : ((S[p].toNat : Int) != 32) = true := by
    have : S[p].toNat ≠ 32 := fun e => h1 (UInt8.toNat_inj.1 e)
    simp; omega
   by_cases h2 : S[p] = 41
   ·have HP : Hid (pEnd (tl S) st p = .ok p) := by
     show _ = _
     unfold pEnd; rw [tl_at hlt, h2, if_pos (.inr (.inr rfl))]
    have hcr : ((S[p].toNat : Int) != 41) = false := by rw [h2]; rfl
    clear h1 h2
    go_enter Tryz.func96, Tryz.ntmps96
    go_wp2
    go_quiet (fail)
    go_wp2
    go_end0
    exact ⟨Out.ok HP.out ⟨rfl, rfl⟩, _, rfl⟩
   ·have hcr : ((S[p].toNat : Int) != 41) = true := by
     have : S[p].toNat ≠ 41 := fun e => h2 (UInt8.toNat_inj.1 e)
     simp; omega
    have HP : Hid (pEnd (tl S) st p = .error (2, st)) := by
     show _ = _
     unfold pEnd; rw [tl_at hlt, if_neg (by rintro (e | e | e); cases e; exact h1 (Option.some.inj e); exact h2 (Option.some.inj e))]
    clear h1 h2
    go_enter Tryz.func96, Tryz.ntmps96
    go_wp2
    go_quiet (fail)
    go_wp2_with fail
    refine (iFail _ _ _).mono ?_
    rintro e w' ⟨rfl, rfl⟩
    go_wp2
    exact ⟨rfl, Out.error HP.out rfl, _, rfl⟩
 ·have hpz : ¬ (p : Int) < (S.size : Int) := by omega
  have HP : Hid (pEnd (tl S) st p = .ok p) := by
   show _ = _
   unfold pEnd; rw [tl_off (by omega), if_pos (.inl rfl)]
  go_enter Tryz.func96, Tryz.ntmps96
  go_wp2
  go_quiet (fail)
  go_wp2
  go_end0
  exact ⟨Out.ok HP.out ⟨rfl, rfl⟩, _, rfl⟩
end Pr1
end Go.Proofs.YtiaimhgfimhepaaGreatDoor
namespace Go.Proofs
open Go.Shelf
def Tryz.lays156_ren : Go.Shelf.Ren := ⟨fun | 156 => 63 | 165 => 91 | 166 => 92 | 169 => 93 | 240 => 137 | 241 => 138 | 276 => 158 | 277 => 159 | n => n, fun | 31 => 75 | 9 => 9 | 3 => 3 | 4 => 4 | 0 => 0 | 20 => 20 | 72 => 119 | 76 => 123 | 70 => 117 | 37 => 22 | 75 => 122 | 127 => 134 | 164 => 146 | 5 => 5 | 80 => 125 | n => n, fun | n => n⟩
theorem Tryz.lays156 : Go.Proofs.Lays.n156 Tryz.prog Tryz.lays156_ren := {
 mixed := by kernel_rfl
 f156 := Tryz.func63.trans (congrArg some (by kernel_rfl))
 f165 := Tryz.func91.trans (congrArg some (by kernel_rfl))
 f166 := Tryz.func92.trans (congrArg some (by kernel_rfl))
 f169 := Tryz.func93.trans (congrArg some (by kernel_rfl))
 f240 := Tryz.func137.trans (congrArg some (by kernel_rfl))
 f241 := Tryz.func138.trans (congrArg some (by kernel_rfl))
 f276 := Tryz.func158.trans (congrArg some (by kernel_rfl))
 f277 := Tryz.func159.trans (congrArg some (by kernel_rfl))
 t0 := Tryz.underlying0
 a0 := Tryz.isAgg0
 z0 := Tryz.sizeOf0
 v0 := Tryz.zeroValue0
 t3 := Tryz.underlying3
 a3 := Tryz.isAgg3
 z3 := Tryz.sizeOf3
 v3 := Tryz.zeroValue3
 t4 := Tryz.underlying4
 a4 := Tryz.isAgg4
 z4 := Tryz.sizeOf4
 v4 := Tryz.zeroValue4
 t9 := Tryz.underlying9
 a9 := Tryz.isAgg9
 z9 := Tryz.sizeOf9
 v9 := Tryz.zeroValue9
 t20 := Tryz.underlying20
 a20 := Tryz.isAgg20
 z20 := Tryz.sizeOf20
 v20 := Tryz.zeroValue20
 t31 := Tryz.underlying75
 a31 := Tryz.isAgg75
 z31 := Tryz.sizeOf75
 v31 := Tryz.zeroValue75
 t37 := Tryz.underlying22
 a37 := Tryz.isAgg22
 z37 := Tryz.sizeOf22
 v37 := Tryz.zeroValue22
 t70 := Tryz.underlying117
 a70 := Tryz.isAgg117
 z70 := Tryz.sizeOf117
 v70 := Tryz.zeroValue117
 t72 := Tryz.underlying119
 a72 := Tryz.isAgg119
 z72 := Tryz.sizeOf119
 v72 := Tryz.zeroValue119
 t75 := Tryz.underlying122
 a75 := Tryz.isAgg122
 z75 := Tryz.sizeOf122
 v75 := Tryz.zeroValue122
 t76 := Tryz.underlying123
 a76 := Tryz.isAgg123
 z76 := Tryz.sizeOf123
 v76 := Tryz.zeroValue123
 t127 := Tryz.underlying134
 a127 := Tryz.isAgg134
 z127 := Tryz.sizeOf134
 v127 := Tryz.zeroValue134
 t164 := Tryz.underlying146
 a164 := Tryz.isAgg146
 z164 := Tryz.sizeOf146
 v164 := Tryz.zeroValue146 }
theorem Tryz.Builder_Extra_156 : Builder.Extra Tryz.prog Tryz.lays156_ren := {
 sizeBuilder := by kernel_rfl
 liesBuilder := by kernel_rfl
 t5 := Tryz.underlying5
 a5 := Tryz.isAgg5
 z5 := Tryz.sizeOf5
 v5 := Tryz.zeroValue5
 infoByte := by kernel_rfl
 cellsByte := by kernel_rfl
 sizeByte := by kernel_rfl
 neB5 := by decide }
open Go.RowKit in
theorem Tryz.strings_Join_none (a : Option Addr) (c : Nat) (sep : ByteArray) (w : World) :
 Calls Tryz.prog 63 #[.slice a 0 c, .string sep] w fun e w' => e = .returned (.string ⟨#[]⟩) /\ w' = w := Any.strings_Join_none Tryz.lays156 Tryz.Builder_Extra_156 a c sep w
open Go.RowKit in
theorem Tryz.strings_Join (bk o c : Nat) (xs : List ByteArray) (sep : ByteArray) (w : World) (hcells : ∀ (j : Nat) x, xs[j]? = some x -> w.cell? ⟨bk, o + j, none⟩ = some (.string x)) (hbk : bk < w.heap.size) (hN : xs.length <= 140737488355328) (hcap : xs.length <= c) (hlen : (Lib.join (xs.map (·.data.toList)) sep.data.toList).length <= 140737488355328) :
 Calls Tryz.prog 63 #[.slice (some ⟨bk, o, none⟩) xs.length c, .string sep] w fun e w' => e = .returned (.string ⟨(Lib.join (xs.map (·.data.toList)) sep.data.toList).toArray⟩) /\ Below w.heap.size w w' := Any.strings_Join Tryz.lays156 Tryz.Builder_Extra_156 bk o c xs sep w hcells hbk hN hcap hlen
def Tryz.laysM171_ren : Go.Shelf.Ren := ⟨fun | 171 => 62 | 243 => 90 | 246 => 136 | 283 => 154 | 284 => 155 | 285 => 156 | 286 => 157 | 129 => 164 | 317 => 163 | 318 => 165 | 319 => 166 | 320 => 167 | 337 => 174 | 338 => 175 | n => n, fun | 3 => 3 | 9 => 9 | 2 => 2 | 4 => 4 | 171 => 140 | 0 => 0 | 53 => 141 | 37 => 22 | 5 => 5 | 173 => 144 | 212 => 151 | 51 => 152 | 20 => 20 | 213 => 153 | 46 => 108 | 232 => 166 | 233 => 167 | n => n, fun | 17 => 1 | 18 => 3 | 19 => 4 | n => n⟩
theorem Tryz.laysM171 : Go.Proofs.LaysM.n171 Tryz.prog Tryz.laysM171_ren := {
 mixed := by kernel_rfl
 f129 := Tryz.func164.trans (congrArg some (by kernel_rfl))
 f171 := Tryz.func62.trans (congrArg some (by kernel_rfl))
 f243 := Tryz.func90.trans (congrArg some (by kernel_rfl))
 f246 := Tryz.func136.trans (congrArg some (by kernel_rfl))
 f283 := Tryz.func154.trans (congrArg some (by kernel_rfl))
 f284 := Tryz.func155.trans (congrArg some (by kernel_rfl))
 f285 := Tryz.func156.trans (congrArg some (by kernel_rfl))
 f286 := Tryz.func157.trans (congrArg some (by kernel_rfl))
 f317 := Tryz.func163.trans (congrArg some (by kernel_rfl))
 f318 := Tryz.func165.trans (congrArg some (by kernel_rfl))
 f319 := Tryz.func166.trans (congrArg some (by kernel_rfl))
 f320 := Tryz.func167.trans (congrArg some (by kernel_rfl))
 f337 := Tryz.func174.trans (congrArg some (by kernel_rfl))
 f338 := Tryz.func175.trans (congrArg some (by kernel_rfl))
 t0 := Tryz.underlying0
 a0 := Tryz.isAgg0
 z0 := Tryz.sizeOf0
 v0 := Tryz.zeroValue0
 t2 := Tryz.underlying2
 a2 := Tryz.isAgg2
 z2 := Tryz.sizeOf2
 v2 := Tryz.zeroValue2
 t3 := Tryz.underlying3
 a3 := Tryz.isAgg3
 z3 := Tryz.sizeOf3
 v3 := Tryz.zeroValue3
 t4 := Tryz.underlying4
 a4 := Tryz.isAgg4
 z4 := Tryz.sizeOf4
 v4 := Tryz.zeroValue4
 t5 := Tryz.underlying5
 a5 := Tryz.isAgg5
 z5 := Tryz.sizeOf5
 v5 := Tryz.zeroValue5
 t9 := Tryz.underlying9
 a9 := Tryz.isAgg9
 z9 := Tryz.sizeOf9
 v9 := Tryz.zeroValue9
 t20 := Tryz.underlying20
 a20 := Tryz.isAgg20
 z20 := Tryz.sizeOf20
 v20 := Tryz.zeroValue20
 t37 := Tryz.underlying22
 a37 := Tryz.isAgg22
 z37 := Tryz.sizeOf22
 v37 := Tryz.zeroValue22
 t46 := Tryz.underlying108
 a46 := Tryz.isAgg108
 z46 := Tryz.sizeOf108
 v46 := Tryz.zeroValue108
 t51 := Tryz.underlying152
 a51 := Tryz.isAgg152
 z51 := Tryz.sizeOf152
 v51 := Tryz.zeroValue152
 t53 := Tryz.underlying141
 a53 := Tryz.isAgg141
 z53 := Tryz.sizeOf141
 v53 := Tryz.zeroValue141
 t171 := Tryz.underlying140
 a171 := Tryz.isAgg140
 z171 := Tryz.sizeOf140
 v171 := Tryz.zeroValue140
 t173 := Tryz.underlying144
 a173 := Tryz.isAgg144
 z173 := Tryz.sizeOf144
 v173 := Tryz.zeroValue144
 t212 := Tryz.underlying151
 a212 := Tryz.isAgg151
 z212 := Tryz.sizeOf151
 v212 := Tryz.zeroValue151
 t213 := Tryz.underlying153
 a213 := Tryz.isAgg153
 z213 := Tryz.sizeOf153
 t232 := Tryz.underlying166
 a232 := Tryz.isAgg166
 z232 := Tryz.sizeOf166
 v232 := Tryz.zeroValue166
 t233 := Tryz.underlying167
 a233 := Tryz.isAgg167
 z233 := Tryz.sizeOf167
 v233 := Tryz.zeroValue167
 g17 := by kernel_rfl
 g18 := by kernel_rfl
 g19 := by kernel_rfl
 i0 := by kernel_rfl
 i2 := by kernel_rfl
 i3 := by kernel_rfl
 i4 := by kernel_rfl
 i5 := by kernel_rfl
 i9 := by kernel_rfl
 i20 := by kernel_rfl
 i37 := by kernel_rfl
 i46 := by kernel_rfl
 i51 := by kernel_rfl
 i53 := by kernel_rfl
 i171 := by kernel_rfl
 i173 := by kernel_rfl
 i212 := by kernel_rfl
 i232 := by kernel_rfl
 i233 := by kernel_rfl
 m17 := by kernel_rfl
 m18 := by kernel_rfl
 m19 := by kernel_rfl }
open Go.RowKit Go.Sort Go.Lib in
theorem Tryz.strconv_Itoa (n : Int) (h0 : -9223372036854775808 <= n) (h1 : n <= 9223372036854775807) (w : World) (htab : Lib.TabIs Tryz.prog w "internal/strconv.uint64pow10" .u64 Lib.pow10Tab) :
 Calls Tryz.prog 62 #[.int .i64 n] w fun e w' => e = .returned (.string ⟨(Lib.itoa n).toArray⟩) /\ ∃ k os, w' = grow (w.drewN k) os := Any.strconv_Itoa Tryz.laysM171 n h0 h1 w htab
end Go.Proofs
namespace Go.Proofs.YtiaimhgfimhepaaGreatDoor
set_option maxRecDepth 100000
set_option maxHeartbeats 8000000
set_option linter.unusedVariables false
namespace Ap5
open Go.RowKit
open Nd0 Ss0 Ss2 Ap4
theorem Ost.one (w : World) (B g : Nat) (x : List UInt8) (hg : g = w.heap.size) (hB : B <= w.heap.size) : Ost (w.alloc (.cells #[.string (bs x)] 9)) B (.slice (some ⟨g, 0, none⟩) 1 1) [x] := by
 subst hg
 exact World.ownsRow_lit w #[.string (bs x)] 1 hB (by unfold maxLen; omega) rfl
theorem Ost.below {w w' : World} {B : Nat} {v : Value} {l : List (List UInt8)} (h : Ost w B v l) (k : Below w.heap.size w w') : Ost w' B v l := h.kept (S := fun _ => False) (Kept.ofBelow k) (fun _ _ e => e)
theorem Ost.cap {w : World} {B : Nat} {a : Option Addr} {n c : Nat} {l : List (List UInt8)} (h : Ost w B (.slice a n c) l) : n = l.length /\ l.length <= c := by
 obtain ⟨h1, h2⟩ := h
 rcases h2 with ⟨e, h0⟩ | ⟨g, cap, cur, e, hb, hg, hn, hm, hs, ht⟩
 ·cases e; exact ⟨h0.symm, by omega⟩
 ·cases e; exact ⟨rfl, hn⟩
theorem Ost.cells {w : World} {B g n c : Nat} {l : List (List UInt8)} (h : Ost w B (.slice (some ⟨g, 0, none⟩) n c) l) : ∀ i (hi : i < l.length), w.cell? ⟨g, i, none⟩ = some (.string (bs l[i])) := by
 obtain ⟨a, c', hv, hs⟩ := h.form
 cases hv
 intro i hi
 rcases hs.2 with h0 | ⟨b, o, he, hc⟩
 ·omega
 ·cases he
  have := hc i hi
  rwa [Nat.zero_add] at this
theorem step_app_strs {ops : Array Oper} {o : Oper} {a : Act} {K : Act -> World -> Prop} {Q : Exit -> Act -> World -> Prop} {E : Prop} (W : World) (hgd : o.guard = none) (s x : Operand)
 (ho : o.op = .call { callee := .builtin .append, args := #[s, x], argTypes := #[75, 75] })
 (B : Nat) (v : Value) (l ys : List (List UInt8)) (gx c : Nat) (hs : a.eval s = v) (hx : a.eval x = .slice (some ⟨gx, 0, none⟩) ys.length c)
 (hy : ∀ i (h : i < ys.length), W.cell? ⟨gx, i, none⟩ = some (.string (bs ys[i]))) (hp : 0 < ys.length)
 (hown : Ost W B v l) (hB : B <= W.heap.size) (hlen : l.length + ys.length <= 1048577)
 (h : ∀ g cap w', Ost w' B (.slice (some ⟨g, 0, none⟩) (l.length + ys.length) cap) (l ++ ys) -> Kept (fun k => v.ownBlock = some k) W w' -> (v.ownBlock = some g \/ W.heap.size <= g) -> K (a.put o.dst (.slice (some ⟨g, 0, none⟩) (l.length + ys.length) cap)) w') :
 if Region.wanted o (yielded ops a.tmps) = true then Oper.wp Tryz.prog o a W K Q else E := by
 obtain ⟨i, hi, hzz⟩ := Option.map_eq_some_iff.1 infoStr
 simp only [Prod.mk.injEq] at hzz
 obtain ⟨hz, hsz, hb⟩ := hzz
 refine step_append_lies W hgd s x 75 ho B 9 i _ 1 16 Tryz.underlying75 hi hz hsz hb rfl (by omega) v l.length (l.map fun x => .string (bs x)) hs hown
  ⟨gx, 0, none⟩ ys.length c (ys.map fun x => .string (bs x)) hx (by simp) (fun j u hu => ?_) ?_ hp (by unfold maxLen; omega) (by omega) hB _ rfl ?_
 ·have hj : j < ys.length := by have := (List.getElem?_eq_some_iff.1 hu).1; simpa using this
  have hadd : (⟨gx, 0, none⟩ : Addr).add j = ⟨gx, j, none⟩ := by unfold Addr.add; split <;> simp_all
  rw [hadd, hy j hj, <- hu]
  simp [hj]
 ·intro u hu
  obtain ⟨n, _, rfl⟩ := List.mem_map.1 hu
  rfl
 ·intro g cap w' h1 h2 h3 h4
  refine h g cap w' ?_ ?_ ?_
  ·unfold Ost
   rw [List.map_append, List.length_append]
   exact h1
  ·exact ⟨h2.os, h2.tape, h2.output, h2.size, fun k hk hn => h2.block k hk (fun e => hn e.symm)⟩
  ·rcases h3 with h3 | h3
   ·exact .inl h3
   ·exact .inr (by rw [h3]; exact Nat.le_refl _)
end Ap5
namespace Pg2
open Go.RowKit
open Nd0 Tm0 Tm5 Pl1 Ap0 Pg1
open Ws1 (ret_int ret_bool)
theorem app_ints {ops : Array Oper} {rest : List Oper} {o : Oper} {a : Act} {Q : Exit -> Act -> World -> Prop} (W : World) (hgd : o.guard = none) (s x : Operand)
 (ho : o.op = .call { callee := .builtin .append, args := #[s, x], argTypes := #[25, 25] })
 (B : Nat) (v : Value) (l ys : List Int) (g c : Nat) (hs : a.eval s = v) (hx : a.eval x = .slice (some ⟨g, 0, none⟩) ys.length c)
 (hy : ∀ j (h : j < ys.length), W.cell? ⟨g, j, none⟩ = some (.int .i64 ys[j])) (hp : 0 < ys.length)
 (hown : Ows W B v l) (hB : B <= W.heap.size) (hlen : l.length + ys.length <= 1048577)
 (h : ∀ g cap w', Ows w' B (.slice (some ⟨g, 0, none⟩) (l.length + ys.length) cap) (l ++ ys) -> Kept (fun k => v.ownBlock = some k) W w' -> wpList Tryz.prog ops Q rest (a.put o.dst (.slice (some ⟨g, 0, none⟩) (l.length + ys.length) cap)) w') :
 wpList Tryz.prog ops Q (o :: rest) a W := by
 obtain ⟨i, hi, hzz⟩ := Option.map_eq_some_iff.1 infoInt
 simp only [Prod.mk.injEq] at hzz
 obtain ⟨hz, hsz, hb⟩ := hzz
 refine wpList_append_lies W hgd s x 25 ho B 3 i (.int .i64 0) 1 8 Tryz.underlying25 hi hz hsz hb rfl (by omega) v l.length (l.map fun x => .int .i64 x) hs hown
  ⟨g, 0, none⟩ ys.length c (ys.map fun x => .int .i64 x) hx (by simp) ?_ ?_ hp (by unfold maxLen; omega) (by omega) hB _ rfl ?_
 ·intro j u hu
  have hadd : (⟨g, 0, none⟩ : Addr).add j = ⟨g, j, none⟩ := by unfold Addr.add; split <;> simp_all
  rw [hadd]
  rw [List.getElem?_map] at hu
  obtain ⟨y, hy1, rfl⟩ := Option.map_eq_some_iff.1 hu
  obtain ⟨hj, rfl⟩ := List.getElem?_eq_some_iff.1 hy1
  exact hy j hj
 ·intro u hu
  obtain ⟨y, _, rfl⟩ := List.mem_map.1 hu
  rfl
 ·intro g cap w' h1 h2 h3 h4
  refine h g cap w' ?_ ?_
  ·unfold Ows
   simpa using h1
  ·exact ⟨h2.os, h2.tape, h2.output, h2.size, fun k hk hn => h2.block k hk (fun e => hn e.symm)⟩
theorem ows_lit (W : World) (B g : Nat) (hg : g = W.heap.size) (hB : B <= g) : Ows (W.alloc (.cells #[] 3)) B (.slice (some ⟨g, 0, none⟩) 0 0) [] := by
 subst hg; exact Ows.lit W B hB
theorem get3 (x y z : Int) (W : World) (g t : Nat) (k : Nat) (hk : k <= 3) (hg : g = W.heap.size) (j : Nat) (h : j < (([x, y, z] : List Int).take k).length) (o : Obj) :
 ((W.alloc (.cells #[.int .i64 x, .int .i64 y, .int .i64 z] t)).alloc o).cell? ⟨g, j, none⟩ = some (.int .i64 (([x, y, z] : List Int).take k)[j]) := by
 subst hg
 rw [World.cell?_alloc_old _ _ _ (by simp), World.cell?_alloc_new]
 have h3 : j < 3 := by simp at h; omega
 rcases j with _ | _ | _ | j
 ·simp
 ·simp
 ·simp
 ·omega
theorem iParts (n : Nd) (w : World) :
 Calls Tryz.prog 42 #[.agg #[.int .i64 n.op, .int .i64 n.w, .int .i64 n.k, .int .i64 n.a, .int .i64 n.b, .int .i64 n.c]] w fun e w' => (∃ a c, e = .returned (.slice a (parts n).length c) /\ WInts w' w.heap.size a (parts n)) /\ Below w.heap.size w w' := by
 have HP : Hid (parts n = ([n.a, n.b, n.c] : List Int).take (cnt n.op)) := by
  show parts n = _
  unfold parts cnt; split
  ·rfl
  ·split
   ·rfl
   ·split <;> rfl
 have hc3 := cnt_le n.op
 by_cases h1 : cnt n.op = 0
 ·go_enter Tryz.func42, Tryz.ntmps42
  go_wp2_with (go_at_call 43; refine (iCount _ _).mono ?_; rintro e w' ⟨rfl, rfl⟩; rw [h1])
  go_ret
  rw [HP.out, h1]
  exact ⟨⟨_, _, rfl, Nat.zero_le _, .inl rfl⟩, (((Below.refl _ _).alloc (Nat.le_refl _) _).alloc (by simp) _).alloc (by simp; omega) _⟩
 ·obtain ⟨l3, hl3⟩ : ∃ l3 : List Int, l3 = ([n.a, n.b, n.c] : List Int).take (cnt n.op) := ⟨_, rfl⟩
  have HL3 : Hid (l3 = ([n.a, n.b, n.c] : List Int).take (cnt n.op)) := hl3
  have hlen : l3.length = cnt n.op := by rw [hl3, List.length_take]; simp; omega
  have HLN : Hid (l3.length = cnt n.op) := hlen
  have hcz : (cnt n.op : Int) <= 3 := by omega
  clear hl3 hlen
  go_enter Tryz.func42, Tryz.ntmps42
  go_wp2_with (first | (go_at_call 43; refine (iCount _ _).mono ?_; rintro e w' ⟨rfl, rfl⟩) | (at_builtin; go_must (refine app_ints _ rfl _ _ rfl w.heap.size (.slice (some ⟨w.heap.size + 1 + 1, 0, none⟩) 0 0) [] l3 (w.heap.size + 1) 3 rfl (by rw [HLN.out]; rfl) (fun j h => by have h9 := HL3.out; subst h9; exact get3 _ _ _ _ _ _ _ hc3 (by simp) _ h _) (by rw [HLN.out]; omega) (ows_lit _ _ _ (by simp) (by omega)) (by simp; omega) (by rw [HLN.out]; simp; omega) ?_; intro g cp w3 ho3 hk3)))
  have HO3 : Hid (Ows w3 w.heap.size (.slice (some ⟨g, 0, none⟩) (([] : List Int).length + l3.length) cp) ([] ++ l3)) := ho3
  have HK3 := hk3.below (B := w.heap.size) (fun k hk => by cases hk; show w.heap.size <= w.heap.size + 1 + 1; omega) (by simp; omega)
  have HB3 : Hid (Below w.heap.size w w3) := ((((Below.refl _ _).alloc (Nat.le_refl _) _).alloc (by simp) _).alloc (by simp; omega) _).trans HK3
  clear ho3 hk3 HK3
  go_wp2
  go_ret
  obtain ⟨a9, c9, hv9, hw9⟩ := HO3.out.form
  simp only [List.nil_append, List.length_nil, Nat.zero_add] at hv9 hw9
  rw [HP.out, <- HL3.out]
  cases hv9
  refine ⟨⟨some ⟨g, 0, none⟩, cp, ?_, hw9⟩, HB3.out⟩
  simp
end Pg2
end Go.Proofs.YtiaimhgfimhepaaGreatDoor

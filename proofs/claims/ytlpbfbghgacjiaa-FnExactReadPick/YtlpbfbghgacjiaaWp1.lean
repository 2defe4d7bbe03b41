/- The text of a pick as plain data; the program's valsText. -/
import Derived.Deep.RegionWith
import Derived.Test.YtlpbfbghgacjiaaVo0
import Derived.Test.YtlpbfbghgacjiaaTd2
import Derived.Test.YtlpbfbghgacjiaaWp0
namespace Go.Proofs.Ytlpbfbghgacjiaa.Wp1
open Go.RowKit
open Ta2 (bitB)
open Vo0 (allB valB iVals)
open Ap9
open Nd0 (Kept Ints lt_of_cell)
open Ss0 (bs bs_size bs_app ret_str)
set_option linter.unusedVariables false

def dgt (b : Int) : UInt8 := if b = 1 then 49 else 48
def vt (l : List Int) : List UInt8 := if l = [] then [45] else l.map dgt
def pkB (l : List Int) (v : Int) : Bool := valB l 12 && bitB v
def pkT (l : List Int) (v : Int) : ByteArray := if pkB l v = true then bs (vt l ++ [32] ++ [dgt v]) else ⟨#[]⟩
theorem bit_two {b : Int} (h : bitB b = true) : b = 0 ∨ b = 1 := by unfold bitB at h; simpa using h
theorem dgt_bit {b : Int} (h : bitB b = true) : ((dgt b).toNat : Int) = 48 + b := by
  rcases bit_two h with rfl | rfl <;> rfl
theorem vt_len (l : List Int) : 1 ≤ (vt l).length ∧ (vt l).length ≤ l.length + 1 := by
  unfold vt
  split
  · exact ⟨Nat.le_refl _, by simp⟩
  · rename_i h
    rw [List.length_map]
    have := List.length_pos_iff.2 h
    omega

set_option maxRecDepth 100000 in
set_option maxHeartbeats 2000000 in
theorem iValsText (w : World) (a : Option Addr) (l : List Int) (c : Nat) (h : Ints w a l) (hl : l.length ≤ 12) (hb : ∀ b ∈ l, bitB b = true) :
    Calls Try.prog 73 #[.slice a l.length c] w fun e w' => e = .returned (.string (bs (vt l))) ∧ Below w.heap.size w w' := by
  have H : Hid (Ints w a l) := h
  have HBT : Hid (∀ b ∈ l, bitB b = true) := hb
  clear h hb
  by_cases h0 : l = []
  · subst h0
    go_enter Try.func73, Try.ntmps73
    go_wp2
    go_ret
    exact ⟨rfl, Below.refl _ _⟩
  have hlp := List.length_pos_iff.2 h0
  have HV : Hid (vt l = l.map dgt) := by show _ = _; unfold vt; exact if_neg h0
  obtain ⟨n, hn⟩ : ∃ n, n = l.length := ⟨_, rfl⟩
  rw [← hn]
  have hn0 : ((n : Int) == 0) = false := beq_eq_false_iff_ne.2 (by omega)
  have hn1 : ¬ n = 0 := by omega
  have hn2 : n ≤ 12 := by omega
  have HN : Hid (n = l.length) := hn
  obtain ⟨TK, hTK⟩ : ∃ TK : Nat → List UInt8, TK = fun k => (l.take k).map dgt := ⟨_, rfl⟩
  have HTK : Hid (TK = fun k => (l.take k).map dgt) := hTK
  have HTL : Hid (∀ k, k ≤ n → (TK k).length = k) := by intro k hk; rw [hTK]; simp; omega
  have HT0 : Hid (TK 0 = []) := by show _ = _; rw [hTK]; rfl
  clear hn h0 hl hlp hTK
  go_enter Try.func73, Try.ntmps73
  go_wp2
  go_loopw [3, 12] (fun v i wr => ∃ k : Nat, k ≤ n ∧ i = .int .i64 k ∧ Owu wr w.heap.size v (TK k) ∧ Below w.heap.size w wr) (fun _ i _ => n - (intOf i).toNat)
  case atStart => exact ⟨0, Nat.zero_le _, rfl, by rw [HT0.out]; exact Owu.lit _ _ (Nat.le_refl _), (Below.refl _ _).alloc (Nat.le_refl _) _⟩
  case round =>
    obtain ⟨k, hk, rfl, ho, hbr⟩ := hrel
    have HO : Hid (Owu wr w.heap.size u3 (TK k)) := ho
    have HB : Hid (Below w.heap.size w wr) := hbr
    clear ho hbr
    by_cases hlt : k < n
    · have hlz : (k : Int) < (n : Int) := by omega
      have hkl : k < l.length := by have := HN.out; omega
      obtain ⟨b, o, ha, hc⟩ : ∃ b o, a = some ⟨b, o, none⟩ ∧ wr.cell? ⟨b, o + k, none⟩ = some (.int .i64 l[k]) := by
        rcases (H.out.below HB.out).2 with e | ⟨b, o, e, hc⟩
        · omega
        · exact ⟨b, o, e, hc k hkl⟩
      subst ha
      have hbl := lt_of_cell hc
      have HBK : Hid (bitB l[k] = true) := HBT.out _ (List.getElem_mem hkl)
      have HNX : Hid (TK (k + 1) = TK k ++ [dgt l[k]]) := by
        show _ = _
        rw [HTK.out]
        show (l.take (k + 1)).map dgt = (l.take k).map dgt ++ [dgt l[k]]
        rw [List.take_succ_eq_append_getElem hkl, List.map_append]
        rfl
      generalize l[k] = x at *
      have hx : 0 ≤ x ∧ x ≤ 1 := by rcases bit_two HBK.out with e | e <;> omega
      have HD : Hid (((dgt x).toNat : Int) = 48 + x) := dgt_bit HBK.out
      have hw8 : IntKind.u8.wrap x = x := by rcases bit_two HBK.out with e | e <;> subst e <;> rfl
      have hw9 : IntKind.u8.wrap (48 + x) = 48 + x := by rcases bit_two HBK.out with e | e <;> subst e <;> rfl
      go_wp2_with (at_builtin; go_must (refine app_byte _ rfl _ _ rfl w.heap.size u3 (TK k) (dgt x) _ (by exact HD.out.symm) rfl rfl HO.out HB.out.size (by rw [HTL.out k (by omega)]; omega) ?_; intro g5 cp5 w5 ho5 hk5 hg5; have HO5 : Hid (Owu w5 w.heap.size (.slice (some ⟨g5, 0, none⟩) ((TK k).length + 1) cp5) (TK k ++ [dgt x])) := ho5; have HK5 : Hid (Kept (fun i => u3.ownBlock = some i) wr w5) := hk5; clear ho5 hk5 hg5))
      go_roundw
      case rel => exact ⟨k + 1, by omega, by go_num, by rw [HNX.out]; exact HO5.out, HB.out.trans (HK5.out.below (fun i hi => (HO.out.lt i hi).1) HB.out.size)⟩
      case measure => simp [intOf]; omega
    · have hlz : ¬ (k : Int) < (n : Int) := by omega
      have e : k = n := by omega
      subst e
      have hT : TK k = vt l := by
        rw [HV.out, HTK.out, HN.out]
        show (l.take l.length).map dgt = _
        rw [List.take_length]
      have ho := HO.out
      rw [hT] at ho
      have hcv := ho.text (vt_len l).1
      clear hT ho
      obtain ⟨R, hR⟩ : ∃ R, R = bs (vt l) := ⟨_, rfl⟩
      rw [← hR] at hcv
      have HR : Hid (R = bs (vt l)) := hR
      clear hR
      go_wp2
      go_ret
      exact ⟨ret_str HR.out, HB.out⟩

theorem made1 (W : World) (v : Int) (T : Nat) : (W.alloc (.cells #[.int .i64 v] T)).cell? ⟨W.heap.size, 0, none⟩ = some (.int .i64 v) := by rw [World.cell?_alloc_new]; rfl
set_option maxRecDepth 100000 in
set_option maxHeartbeats 4000000 in
theorem iPickText (w : World) (a : Option Addr) (l : List Int) (c : Nat) (v : Int) (h : Ints w a l) :
    Calls Try.prog 35 #[Wp0.pv a l.length c v] w fun e w' => e = .returned (.string (pkT l v)) ∧ Below w.heap.size w w' := by
  have H : Hid (Ints w a l) := h
  clear h
  obtain ⟨X0, hX0⟩ : ∃ X, X = w.alloc (.cells #[.slice a l.length c, .int .i64 v] 60) := ⟨_, rfl⟩
  have HB : Hid (Below w.heap.size w X0) := by rw [hX0]; exact (Below.refl _ _).alloc (Nat.le_refl _) _
  have HP : Hid (Wp0.Pb X0 w.heap.size a l.length c v) := by rw [hX0]; exact Wp0.Pb.made _ _ _ _ _ _
  have hE : w.alloc (.cells #[.slice a l.length c, .int .i64 v] 60) = X0 := hX0.symm
  clear hX0
  have HVO : Hid (∀ W, Ints W a l → Calls Try.prog 71 #[.slice a l.length c, .int .i64 12] W fun e w' => e = .returned (.bool (valB l 12)) ∧ w' = W) := fun W hi => iVals a l c 12 W hi
  have HBO : Hid (∀ W, Calls Try.prog 72 #[.int .i64 v] W fun e w' => e = .returned (.bool (bitB v)) ∧ w' = W) := fun W => Te1.iBitOk v W
  cases hA : valB l 12
  · have HR : Hid (pkT l v = ⟨#[]⟩) := by show _ = _; unfold pkT pkB; rw [hA]; rfl
    rw [hA] at HVO
    clear hA
    go_enter Try.func35, Try.ntmps35
    go_upto_region 1 with fail
    clear hE
    obtain ⟨p0, p1⟩ := HP.out
    have hp := HP.out.lt
    go_wp2_with (go_at_call 71; refine (HVO.out _ (H.out.below HB.out)).mono ?_; rintro e w' ⟨rfl, hw'⟩; have hw'' := hw'.symm; clear hw'; subst hw'')
    go_ret
    exact ⟨ret_str HR.out.symm, HB.out⟩
  cases hV : bitB v
  · have HR : Hid (pkT l v = ⟨#[]⟩) := by show _ = _; unfold pkT pkB; rw [hA, hV]; rfl
    rw [hA] at HVO
    rw [hV] at HBO
    clear hA hV
    go_enter Try.func35, Try.ntmps35
    go_upto_region 1 with fail
    clear hE
    obtain ⟨p0, p1⟩ := HP.out
    have hp := HP.out.lt
    go_wp2_with (first | (go_at_call 71; refine (HVO.out _ (H.out.below HB.out)).mono ?_; rintro e w' ⟨rfl, hw'⟩; have hw'' := hw'.symm; clear hw'; subst hw'') | (go_at_call 72; refine (HBO.out _).mono ?_; rintro e w' ⟨rfl, hw'⟩; have hw'' := hw'.symm; clear hw'; subst hw''))
    go_ret
    exact ⟨ret_str HR.out.symm, HB.out⟩
  have hl : l.length ≤ 12 ∧ ∀ b ∈ l, bitB b = true := by
    unfold valB allB at hA
    simp at hA
    exact ⟨by omega, hA.1⟩
  have HVT : Hid (∀ W, Ints W a l → Calls Try.prog 73 #[.slice a l.length c] W fun e w' => e = .returned (.string (bs (vt l))) ∧ Below W.heap.size W w') := fun W hi => iValsText W a l c hi hl.1 hl.2
  have HVT1 : Hid (∀ (W : World) (g : Nat), W.cell? ⟨g, 0, none⟩ = some (.int .i64 v) → Calls Try.prog 73 #[.slice (some ⟨g, 0, none⟩) 1 1] W fun e w' => e = .returned (.string (bs [dgt v])) ∧ Below W.heap.size W w') := fun W g hg => by
    have h := iValsText W (some ⟨g, 0, none⟩) [v] 1 ⟨by simp [maxLen], .inr ⟨g, 0, rfl, fun i hi => by
      have : i = 0 := by simpa using hi
      subst this
      exact hg⟩⟩ (by simp) (by intro b hb; rw [List.mem_singleton.1 hb]; exact hV)
    exact h
  have HR : Hid (pkT l v = bs (vt l) ++ ⟨#[32]⟩ ++ bs [dgt v]) := by
    show _ = _
    unfold pkT pkB
    rw [hA, hV, show (⟨#[32]⟩ : ByteArray) = bs [32] from rfl, bs_app, bs_app]
    rfl
  have hs1 : (bs (vt l)).size ≤ 13 := by
    rw [bs_size]
    have := (vt_len l).2
    omega
  have hs2 : (bs [dgt v]).size = 1 := by rw [bs_size]; rfl
  rw [hA] at HVO
  rw [hV] at HBO
  clear hA hV hl
  obtain ⟨S1, hS1⟩ : ∃ S1, S1 = bs (vt l) := ⟨_, rfl⟩
  obtain ⟨S2, hS2⟩ : ∃ S2, S2 = bs [dgt v] := ⟨_, rfl⟩
  rw [← hS1] at HVT HR hs1
  rw [← hS2] at HVT1 HR hs2
  clear hS1 hS2
  go_enter Try.func35, Try.ntmps35
  go_upto_region 1 with fail
  clear hE
  obtain ⟨p0, p1⟩ := HP.out
  have hp := HP.out.lt
  go_wp2_with (first | (go_at_call 71; refine (HVO.out _ (H.out.below HB.out)).mono ?_; rintro e w' ⟨rfl, hw'⟩; have hw'' := hw'.symm; clear hw'; subst hw'') | (go_at_call 72; refine (HBO.out _).mono ?_; rintro e w' ⟨rfl, hw'⟩; have hw'' := hw'.symm; clear hw'; subst hw''))
  clear p0 p1 hp HVO HBO
  have hs3 : ¬ 9223372036854775807 < S1.size + 1 := by omega
  have hs4 : ¬ 9223372036854775807 < S1.size + 1 + S2.size := by omega
  have hs5 : ¬ 9223372036854775807 < (S1 ++ ⟨#[32]⟩).size + S2.size := by
    rw [ByteArray.size_append]
    show ¬ 9223372036854775807 < S1.size + 1 + S2.size
    omega
  clear hs2
  have dd : Below X0.heap.size X0 X0.drew := (Below.refl _ _).drew
  have da : Below X0.heap.size X0 (X0.alloc (.cells #[.int .i64 v] 3)).drew := ((Below.refl _ _).alloc (Nat.le_refl _) _).drew
  have KI0 : Hid (Ints X0.drew a l) := (H.out.below HB.out).below dd
  have KI1 : Hid (Ints (X0.alloc (.cells #[.int .i64 v] 3)).drew a l) := (H.out.below HB.out).below da
  have HBD : Hid (Below w.heap.size w X0.drew) := HB.out.drew
  have HBA : Hid (Below w.heap.size w (X0.alloc (.cells #[.int .i64 v] 3)).drew) := HB.out.trans (da.mono HB.out.size)
  have CA : Hid ((X0.alloc (.cells #[.int .i64 v] 3)).drew.cell? ⟨X0.heap.size, 0, none⟩ = some (.int .i64 v)) := by show _ = _; rw [World.cell?_drew, World.cell?_alloc_new]; rfl
  obtain ⟨p0, p1⟩ := HP.out.below dd
  have hp := lt_of_cell p0
  have HPD : Hid (Wp0.Pb X0.drew w.heap.size a l.length c v) := ⟨p0, p1⟩
  clear dd da
  have hPA : Hid (Wp0.Pb (X0.alloc (.cells #[.int .i64 v] 3)).drew w.heap.size a l.length c v) := (HP.out.kept (S := fun _ => False) ((Kept.refl _ _).alloc _) (fun h => h)).kept (S := fun _ => False) (Kept.refl _ _).drew (fun h => h)
  go_region_held3 (fun w' => w'.cell? ⟨w.heap.size, 0, none⟩ = some (.slice a l.length c) ∧ w'.cell? ⟨w.heap.size, 1, none⟩ = some (.int .i64 v)) ((first | (with_reducible exact ⟨HPD.out.c0, HPD.out.c1⟩) | (with_reducible exact ⟨hPA.out.c0, hPA.out.c1⟩) | (with_reducible exact ⟨HP2.out.c0, HP2.out.c1⟩) | (with_reducible exact ⟨HP1.out.c0, HP1.out.c1⟩) | (with_reducible exact ⟨HP1A.out.c0, HP1A.out.c1⟩))) ((first | (go_at_call 73; (with_reducible refine (HVT.out _ KI0.out).mono ?_); rintro e x1 ⟨rfl, hb⟩; have HB1 : Hid (Below w.heap.size w x1) := HBD.out.trans (hb.mono HBD.out.size); have HP1 : Hid (Wp0.Pb x1 w.heap.size a l.length c v) := HPD.out.below hb; have HP1A : Hid (Wp0.Pb (x1.alloc (.cells #[.int .i64 v] 3)) w.heap.size a l.length c v) := HP1.out.kept (S := fun _ => False) ((Kept.refl _ _).alloc _) (fun h => h); clear hb) | (go_at_call 73; (with_reducible refine (HVT.out _ KI1.out).mono ?_); rintro e x1 ⟨rfl, hb⟩; have HB1 : Hid (Below w.heap.size w x1) := HBA.out.trans (hb.mono HBA.out.size); have HP1 : Hid (Wp0.Pb x1 w.heap.size a l.length c v) := hPA.out.below hb; have c1 : x1.cell? ⟨X0.heap.size, 0, none⟩ = some (.int .i64 v) := (by rw [hb.cell (p := ⟨X0.heap.size, 0, none⟩) (lt_of_cell CA.out)]; exact CA.out); clear hb) | (go_at_call 73; (first | with_reducible refine (HVT1.out _ _ c1).mono ?_ | with_reducible refine (HVT1.out _ _ (made1 _ _ _)).mono ?_); rintro e x2 ⟨rfl, hb2⟩; (first | have HB2 : Hid (Below w.heap.size w x2) := HB1.out.trans (hb2.mono HB1.out.size) | have HB2 : Hid (Below w.heap.size w x2) := (HB1.out.alloc HB1.out.size _).trans (hb2.mono (HB1.out.alloc HB1.out.size _).size)); (first | have HP2 : Hid (Wp0.Pb x2 w.heap.size a l.length c v) := HP1.out.below hb2 | have HP2 : Hid (Wp0.Pb x2 w.heap.size a l.length c v) := HP1A.out.below hb2); clear hb2)))
  all_goals
    go_wp2
    go_ret
    exact ⟨ret_str HR.out.symm, HB2.out⟩
end Go.Proofs.Ytlpbfbghgacjiaa.Wp1

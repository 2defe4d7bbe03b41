/- The model's PickText. -/
import Derived.BigQuiet
import Derived.Test.YtlpbfbghgacjiaaWp1
namespace Go.Proofs.Ytlpbfbghgacjiaa.Wp2
open Go.RowKit
open Ta2 (bitB)
open Vo0 (allB valB)
open Tc2 (sInT sInF)
open Nd0 (Kept Ints lt_of_cell)
open Ss0 (bs bs_size bs_app ret_str)
open Wp0 Wp1
set_option linter.unusedVariables false

theorem cut01 {x : Int} (h : bitB x = true) : (ByteArray.mk #[48, 49]).extract x.toNat (x.toNat + 1) = bs [dgt x] := by
  rcases bit_two h with e | e <;> subst e <;> rfl
theorem bit_in {x : Int} : bitB x = true ↔ 0 ≤ x ∧ x ≤ 1 := by
  unfold bitB
  rw [decide_eq_true_iff]
  omega
set_option maxRecDepth 100000 in
set_option maxHeartbeats 4000000 in
theorem sPickText (w : World) (a : Option Addr) (l : List Int) (c : Nat) (v : Int) (h : Ints w a l) :
    Calls Try.prog 33 #[pv a l.length c v] w fun e w' => e = .returned (.string (pkT l v)) ∧ Below w.heap.size w w' := by
  have H : Hid (Ints w a l) := h
  have hml := h.1
  unfold maxLen at hml
  clear h
  obtain ⟨X0, hX0⟩ : ∃ X, X = w.alloc (.cells #[.slice a l.length c, .int .i64 v] 60) := ⟨_, rfl⟩
  have HB : Hid (Below w.heap.size w X0) := by rw [hX0]; exact (Below.refl _ _).alloc (Nat.le_refl _) _
  have HP : Hid (Pb X0 w.heap.size a l.length c v) := by rw [hX0]; exact Pb.made _ _ _ _ _ _
  have hE : w.alloc (.cells #[.slice a l.length c, .int .i64 v] 60) = X0 := hX0.symm
  clear hX0
  by_cases hl : (12 : Int) < (l.length : Int)
  · have HR : Hid (pkT l v = ⟨#[]⟩) := by
      show _ = _
      unfold pkT pkB valB
      rw [decide_eq_false (show ¬ (l.length : Int) ≤ 12 by omega)]
      simp
    go_enter Try.func33, Try.ntmps33
    go_upto_region 1 with fail
    clear hE
    obtain ⟨p0, p1⟩ := HP.out
    have hp := HP.out.lt
    go_wp2
    go_ret
    exact ⟨ret_str HR.out.symm, HB.out⟩
  cases hV : bitB v
  · have HR : Hid (pkT l v = ⟨#[]⟩) := by show _ = _; unfold pkT pkB; rw [hV]; simp
    have hno : ¬ (0 ≤ v ∧ v ≤ 1) := fun e => by rw [bit_in.2 e] at hV; cases hV
    clear hV
    go_enter Try.func33, Try.ntmps33
    go_upto_region 1 with fail
    clear hE
    obtain ⟨p0, p1⟩ := HP.out
    have hp := HP.out.lt
    go_wp2_with (go_at_call 62; refine (sInF _ hno).mono ?_; rintro e w' ⟨rfl, hw'⟩; have hw'' := hw'.symm; clear hw'; subst hw'')
    go_ret
    exact ⟨ret_str HR.out.symm, HB.out⟩
  have HVB : Hid (bitB v = true) := hV
  have hv01 := bit_in.1 hV
  clear hV
  go_enter Try.func33, Try.ntmps33
  go_upto_region 1 with fail
  clear hE
  obtain ⟨p0, p1⟩ := HP.out
  have hp := HP.out.lt
  have HIN : Hid (∀ W : World, Calls Try.prog 62 #[.int .i64 v, .int .i64 0, .int .i64 1] W fun e w' => e = .returned (.bool true) ∧ w' = W) := fun W => sInT W hv01
  go_wp2_with (go_at_call 62; refine (HIN.out _).mono ?_; rintro e w' ⟨rfl, hw'⟩; have hw'' := hw'.symm; clear hw'; subst hw'')
  clear p0 p1 hp
  obtain ⟨TK, hTK⟩ : ∃ TK : Nat → ByteArray, TK = fun k => bs ((l.take k).map dgt) := ⟨_, rfl⟩
  have HTK : Hid (TK = fun k => bs ((l.take k).map dgt)) := hTK
  have HTL : Hid (∀ k, k ≤ l.length → (TK k).size = k) := by intro k hk; rw [hTK]; show (bs _).size = k; rw [bs_size]; simp; omega
  have HT0 : Hid (⟨#[]⟩ = TK 0) := by show _ = _; rw [hTK]; rfl
  clear hTK
  go_loopw [3, 4] (fun o i wr => ∃ k : Nat, k ≤ l.length ∧ i = .int .i64 k ∧ o = .string (TK k) ∧ (∀ j (hj : j < l.length), j < k → bitB l[j] = true) ∧ Below X0.heap.size X0 wr) (fun _ i _ => l.length - (intOf i).toNat)
  case atStart => exact ⟨0, Nat.zero_le _, rfl, congrArg Value.string HT0.out, fun j _ hj => by omega, Below.refl _ _⟩
  case round =>
    obtain ⟨k, hk, rfl, rfl, hbt, hbr⟩ := hrel
    have HBT : Hid (∀ j (hj : j < l.length), j < k → bitB l[j] = true) := hbt
    have HR : Hid (Below X0.heap.size X0 wr) := hbr
    have HPW : Hid (Pb wr w.heap.size a l.length c v) := HP.out.below hbr
    have HFB : Hid (Below w.heap.size w wr) := HB.out.trans (hbr.mono HB.out.size)
    clear hbt hbr
    by_cases hlt : k < l.length
    · have hlz : (k : Int) < (l.length : Int) := by omega
      obtain ⟨b, o, ha, hc⟩ : ∃ b o, a = some ⟨b, o, none⟩ ∧ wr.cell? ⟨b, o + k, none⟩ = some (.int .i64 l[k]) := by
        rcases (H.out.below HFB.out).2 with e | ⟨b, o, e, hc⟩
        · omega
        · exact ⟨b, o, e, hc k hlt⟩
      subst ha
      have hbl := lt_of_cell hc
      obtain ⟨p0, p1⟩ := HPW.out
      have hp := HPW.out.lt
      cases hX : bitB l[k]
      · have HRS : Hid (pkT l v = ⟨#[]⟩) := by
          show _ = _
          unfold pkT pkB valB
          rw [Vo0.allB_no hlt hX]
          simp
        have hno : ¬ (0 ≤ l[k] ∧ l[k] ≤ 1) := fun e => by rw [bit_in.2 e] at hX; cases hX
        clear hX
        generalize l[k] = x at *
        go_wp2_with (go_at_call 62; refine (sInF _ hno).mono ?_; rintro e w' ⟨rfl, hw'⟩; have hw'' := hw'.symm; clear hw'; subst hw'')
        go_ret
        exact ⟨ret_str HRS.out.symm, HFB.out⟩
      · have HNB : Hid (∀ j (hj : j < l.length), j < k + 1 → bitB l[j] = true) := fun j hj h2 => by
          by_cases e : j = k
          · subst e; exact hX
          · exact HBT.out j hj (by omega)
        have HNX : Hid (TK k ++ bs [dgt l[k]] = TK (k + 1)) := by
          show _ = _
          rw [HTK.out]
          show bs ((l.take k).map dgt) ++ bs [dgt l[k]] = bs ((l.take (k + 1)).map dgt)
          rw [List.take_succ_eq_append_getElem hlt, List.map_append, bs_app]
          rfl
        have h01 := bit_in.1 hX
        have HC : Hid ((ByteArray.mk #[48, 49]).extract (l[k]).toNat ((l[k]).toNat + 1) = bs [dgt l[k]]) := cut01 hX
        clear hX
        generalize l[k] = x at *
        have HIX : Hid (∀ W : World, Calls Try.prog 62 #[.int .i64 x, .int .i64 0, .int .i64 1] W fun e w' => e = .returned (.bool true) ∧ w' = W) := fun W => sInT W h01
        have hx2 : x + 1 ≤ 2 := by omega
        have hxw : IntKind.i64.wrap (x + 1) = x + 1 := by rw [IntKind.wrap_i64]; omega
        have hsz : (TK k).size ≤ 12 := by rw [HTL.out k hk]; omega
        obtain ⟨y, rfl⟩ : ∃ y : Nat, x = (y : Int) := ⟨x.toNat, by omega⟩
        have hy : y ≤ 1 := by omega
        go_wp2_with (go_at_call 62; refine (HIX.out _).mono ?_; rintro e w' ⟨rfl, hw'⟩; have hw'' := hw'.symm; clear hw'; subst hw'')
        rw [Int.toNat_natCast] at HC
        go_quiet (fail)
        go_wp2
        go_roundw
        case rel => exact ⟨k + 1, by omega, by go_num, congrArg Value.string (by rw [← HNX.out, ← HC.out]), HNB.out, HR.out.trans ⟨rfl, rfl, rfl, Nat.le_refl _, fun _ _ => rfl⟩⟩
        case measure => simp [intOf]; omega
    · have hlz : ¬ (k : Int) < (l.length : Int) := by omega
      have E : Hid (k = l.length) := by show _ = _; omega
      have HFIN : Hid (pkT l v = bs (vt l) ++ ⟨#[32]⟩ ++ bs [dgt v]) := by
        show _ = _
        have hall : allB l = true := by
          unfold allB
          rw [List.all_eq_true]
          intro x hx
          obtain ⟨t, ht, rfl⟩ := List.getElem_of_mem hx
          exact HBT.out t ht (by have := E.out; omega)
        unfold pkT pkB valB
        rw [hall, HVB.out, decide_eq_true (show (l.length : Int) ≤ 12 by omega), show (⟨#[32]⟩ : ByteArray) = bs [32] from rfl, bs_app, bs_app]
        rfl
      have HCV : Hid ((ByteArray.mk #[48, 49]).extract v.toNat (v.toNat + 1) = bs [dgt v]) := cut01 HVB.out
      obtain ⟨y, rfl⟩ : ∃ y : Nat, v = (y : Int) := ⟨v.toNat, by omega⟩
      rw [Int.toNat_natCast] at HCV
      have hy : y ≤ 1 := by omega
      have hxw : IntKind.i64.wrap ((y : Int) + 1) = (y : Int) + 1 := by rw [IntKind.wrap_i64]; omega
      obtain ⟨p0, p1⟩ := HPW.out
      have hp := HPW.out.lt
      have hx2 : (y : Int) + 1 ≤ 2 := by omega
      by_cases hz : l = []
      · have hte : ((TK k).toList == []) = true := Ss1.eql_true (by rw [HTK.out, hz]; show Ss1.tl (bs _) = []; rw [Ss1.tl_bs]; simp)
        have HVT : Hid (⟨#[45]⟩ = bs (vt l)) := by show _ = _; rw [hz]; rfl
        clear hz
        go_wp2
        go_ret
        exact ⟨ret_str (by rw [HFIN.out, ← HVT.out, ← HCV.out]), HFB.out⟩
      · have hte : ((TK k).toList == []) = false := Ss1.eql_false (by
          rw [HTK.out, E.out]
          show Ss1.tl (bs _) ≠ []
          rw [Ss1.tl_bs, List.take_length]
          simpa using hz)
        have HVT : Hid (TK k = bs (vt l)) := by
          show _ = _
          rw [HTK.out, E.out]
          show bs _ = _
          rw [List.take_length]
          unfold vt
          rw [if_neg hz]
        have hsz : (TK k).size ≤ 12 := by rw [HTL.out k hk]; omega
        clear hz
        go_wp2
        go_ret
        exact ⟨ret_str (by rw [HFIN.out, ← HVT.out, ← HCV.out]), HFB.out⟩
end Go.Proofs.Ytlpbfbghgacjiaa.Wp2

/- Small texts of mine, one behind the other. -/
import Derived.Test.YtbnjndloeflgiaaGreatRows
import Derived.Test.YtbnjndloeflgiaaGreatPkTA1
import Derived.Test.YtbnjndloeflgiaaGreatPkTA10
import Derived.Test.YtbnjndloeflgiaaGreatPkTA2
import Derived.Test.YtbnjndloeflgiaaGreatPkTA6
import Derived.Test.YtbnjndloeflgiaaGreatPkTA16
import Derived.Test.YtbnjndloeflgiaaGreatPkTA17
import Derived.Test.YtbnjndloeflgiaaGreatPkTA8
import Derived.Test.YtbnjndloeflgiaaGreatPkTA3
import Derived.Test.YtbnjndloeflgiaaGreatPkTA0
/- The walks of Swaps and Rows, of the model and of the program. -/
namespace Go.Proofs.YtbnjndloeflgiaaGreat.Fm1
open Go.RowKit
open Nd0 Qa0 Fr0 Ap1
open Ws1 (ret_int ret_bool)
open Wd4 (iOne)
open Pg1 (iWidthOk)
open Sp2 (sIn)
set_option linter.unusedVariables false

theorem quAt {w : World} {a : Option Addr} {q : List Qu} (h : Qus w a q) {k : Nat} (hk : k < q.length) : ∃ b o, a = some ⟨b, o, none⟩ ∧ ∀ j, j < q.length → QuAt w b (o + j * 3) (qth q j) := by
  rcases h.2 with h0 | ⟨b, o, ha, hc⟩
  · omega
  · exact ⟨b, o, ha, fun j hj => by rw [← qth_get hj]; exact hc j hj⟩

def bitsQ (q : List Qu) : Int := match bqTo q q.length with
  | none => 13
  | some n => (n : Int)
theorem bitsQ_few (q : List Qu) : fewB q = decide (bitsQ q ≤ 12) := by
  unfold fewB bitsQ
  cases bqTo q q.length with
  | none => rfl
  | some n => by_cases h : n ≤ 12
              · simp only [decide_eq_true h]; rw [decide_eq_true (by omega)]
              · simp only [decide_eq_false h]; rw [decide_eq_false (by omega)]

set_option maxHeartbeats 1000000 in
theorem sBitsQ (w : World) (a : Option Addr) (q : List Qu) (c : Nat) (hN : Qus w a q) (hl : q.length ≤ 1048576) :
    Calls Tryz.prog 31 #[.slice a q.length c] w fun e w' => e = .returned (.int .i64 (bitsQ q)) ∧ w' = w := by
  have HN : Hid (Qus w a q) := hN
  clear hN
  go_enter Tryz.func31, Tryz.ntmps31
  go_wp2
  go_loop [3, 4] (fun n i => ∃ k m : Nat, k ≤ q.length ∧ i = .int .i64 k ∧ bqTo q k = some m ∧ n = .int .i64 (m : Int)) (fun _ i => q.length - (intOf i).toNat)
  case atStart => exact ⟨0, 0, Nat.zero_le _, rfl, rfl, rfl⟩
  case round =>
    obtain ⟨k, m, hk, rfl, hm, rfl⟩ := hrel
    have HM : Hid (bqTo q k = some m) := hm
    have hmb := bq_le m hm
    clear hm
    by_cases hlt : k < q.length
    · have hlz : (k : Int) < (q.length : Int) := by omega
      obtain ⟨b, o, rfl, hc⟩ := quAt HN.out hlt
      have p2 := (hc k hlt).c2
      clear hc
      obtain ⟨x, hx⟩ : ∃ x, x = (qth q k).bits := ⟨_, rfl⟩
      rw [← hx] at p2
      have HX : Hid (x = (qth q k).bits) := hx
      clear hx
      by_cases hb : 1 ≤ x ∧ x ≤ 8
      · have hd : decide (1 ≤ x ∧ x ≤ 8) = true := decide_eq_true hb
        obtain ⟨hb1, hb2⟩ := hb
        go_wp2_with (go_at_call 44; refine (sIn _ _ _ _).mono ?_; rintro e w' ⟨rfl, rfl⟩; rw [hd])
        go_round
        case rel => exact ⟨k + 1, m + x.toNat, by omega, by go_num, by rw [bq_succ HM.out (by rw [← HX.out]; exact ⟨hb1, hb2⟩), HX.out], by go_num⟩
        case measure => simp [intOf]; omega
      · have hd : decide (1 ≤ x ∧ x ≤ 8) = false := decide_eq_false hb
        have HE : Hid (bitsQ q = 13) := by
          show _ = _
          unfold bitsQ
          rw [bq_none (bq_bad (by rw [← HX.out]; exact hb)) q.length (by omega)]
        clear hb
        go_wp2_with (go_at_call 44; refine (sIn _ _ _ _).mono ?_; rintro e w' ⟨rfl, rfl⟩; rw [hd])
        go_ret
        exact ⟨ret_int HE.out.symm, rfl⟩
    · have HE : Hid (bitsQ q = (m : Int)) := by
        show _ = _
        unfold bitsQ
        rw [← show k = q.length by omega, HM.out]
      go_wp2
      go_ret
      exact ⟨ret_int HE.out.symm, rfl⟩

set_option maxRecDepth 100000 in
set_option maxHeartbeats 2000000 in
theorem iRowOf (w : World) (a : Option Addr) (q : List Qu) (c : Nat) (hN : Qus w a q) (hl : q.length ≤ 1048576) :
    Calls Tryz.prog 23 #[.slice a q.length c] w fun e w' => (∃ a' c', e = .returned (.tuple #[.slice a' (rowsL q).length c', .bool (fewB q)]) ∧ WBools w' w.heap.size a' (rowsL q)) ∧ Below w.heap.size w w' := by
  have HN : Hid (Qus w a q) := hN
  clear hN
  have HAL : Hid (Below w.heap.size w (w.alloc (.cells #[] 4))) := (Below.refl _ _).alloc (Nat.le_refl _) _
  have HO0 : Hid (Owb (w.alloc (.cells #[] 4)) w.heap.size (.slice (some ⟨w.heap.size, 0, none⟩) 0 0) []) := Owb.lit w _ (Nat.le_refl _)
  have HNO : Hid (fewB q = false → ∀ (g : Nat) (W : World), Below w.heap.size w W → (∃ a' c', Ending.returned (.tuple #[.slice (some ⟨g, 0, none⟩) 0 0, .bool false]) = .returned (.tuple #[.slice a' (rowsL q).length c', .bool (fewB q)]) ∧ WBools (W.alloc (.cells #[] 4)) w.heap.size a' (rowsL q)) ∧ Below w.heap.size w (W.alloc (.cells #[] 4))) := fun hf g W hW => by
    have e1 : rowsL q = [] := by unfold rowsL; rw [hf]; rfl
    rw [e1, hf]
    exact ⟨⟨_, _, rfl, Nat.zero_le _, .inl rfl⟩, hW.alloc hW.size _⟩
  go_enter Tryz.func23, Tryz.ntmps23
  go_wp2
  go_loopw [4, 10] (fun v i wr => ∃ k m : Nat, k ≤ q.length ∧ i = .int .i64 k ∧ bqTo q k = some m ∧ m ≤ 12 ∧ Owb wr w.heap.size v (rowTo q k) ∧ Below w.heap.size w wr) (fun _ i _ => q.length - (intOf i).toNat)
  case atStart => exact ⟨0, 0, Nat.zero_le _, rfl, rfl, Nat.zero_le _, HO0.out, HAL.out⟩
  case round =>
    obtain ⟨k, m, hk, rfl, hm, hm12, ho, hb⟩ := hrel
    have HO : Hid (Owb wr w.heap.size u4 (rowTo q k)) := ho
    have HB : Hid (Below w.heap.size w wr) := hb
    have HM : Hid (bqTo q k = some m) := hm
    have hrl := rowTo_length m hm
    have hbs0 : w.heap.size ≤ wr.heap.size := hb.size
    obtain ⟨av, cv, hv, _⟩ := ho.form
    rw [hrl] at hv
    subst hv
    clear ho hm
    by_cases hlt : k < q.length
    · have hlz : (k : Int) < (q.length : Int) := by omega
      obtain ⟨b, o, rfl, hc⟩ := quAt (HN.out.below hb) hlt
      obtain ⟨p0, p1, p2⟩ := hc k hlt
      clear hc hb
      have HR1 : Hid (rowTo q (k + 1) = rowTo q k ++ List.replicate (qth q k).bits.toNat (qth q k).all) := rfl
      have HRP : Hid (∀ j, rowTo q k ++ List.replicate (j + 1) (qth q k).all = (rowTo q k ++ List.replicate j (qth q k).all) ++ [(qth q k).all]) := rowTo_part q k
      have HBAD : Hid (¬ (1 ≤ (qth q k).bits ∧ (qth q k).bits ≤ 8) → fewB q = false) := fun h => few_bad (k := k + 1) (by omega) (bq_bad h)
      have HSUC : Hid (1 ≤ (qth q k).bits ∧ (qth q k).bits ≤ 8 → bqTo q (k + 1) = some (m + (qth q k).bits.toNat)) := fun h => bq_succ HM.out h
      have HMUCH : Hid (1 ≤ (qth q k).bits ∧ (qth q k).bits ≤ 8 → 12 < m + (qth q k).bits.toNat → fewB q = false) := fun h h2 => few_much (k := k + 1) (by omega) (bq_succ HM.out h) h2
      generalize rowTo q k = R at HO HR1 HRP hrl
      generalize (qth q k).all = al at HR1 HRP p0
      generalize (qth q k).bits = bt at HR1 HBAD HSUC HMUCH p2
      generalize (qth q k).vr = vr at p1
      have HBX : Hid (Below w.heap.size w (wr.alloc (.cells #[.bool al, .int .i64 vr, .int .i64 bt] 37))) := HB.out.alloc hbs0 _
      by_cases hbt : 1 ≤ bt ∧ bt ≤ 8
      · have hd : decide (1 ≤ bt ∧ bt ≤ 8) = true := decide_eq_true hbt
        obtain ⟨hb1, hb2⟩ := hbt
        by_cases hmu : 12 < (m : Int) + bt
        · have HF : Hid (fewB q = false) := HMUCH.out ⟨hb1, hb2⟩ (by omega)
          go_wp2_with (go_at_call 48; refine (iWidthOk _ _).mono ?_; rintro e w' ⟨rfl, rfl⟩; rw [hd])
          go_ret2
          exact HNO.out HF.out _ _ HBX.out
        · have HS : Hid (bqTo q (k + 1) = some (m + bt.toNat)) := HSUC.out ⟨hb1, hb2⟩
          have hmu2 : (m : Int) + bt ≤ 12 := by omega
          have HOX : Hid (Owb (wr.alloc (.cells #[.bool al, .int .i64 vr, .int .i64 bt] 37)) w.heap.size (.slice av m cv) R) := HO.out.kept (S := fun _ => False) ((Kept.refl _ _).alloc _) (fun _ _ h => h)
          have HNE : Hid ((Value.slice av m cv).ownBlock ≠ some wr.heap.size) := fun h => by have := (HO.out.lt _ h).2; omega
          obtain ⟨G, hG⟩ : ∃ G, G = wr.heap.size := ⟨_, rfl⟩
          have HG : Hid (G = wr.heap.size) := hG
          have HCX : Hid ((wr.alloc (.cells #[.bool al, .int .i64 vr, .int .i64 bt] 37)).cell? ⟨G, 0, none⟩ = some (.bool al) ∧ G < (wr.alloc (.cells #[.bool al, .int .i64 vr, .int .i64 bt] 37)).heap.size) := by
            rw [hG]
            exact ⟨by rw [World.cell?_alloc_new]; rfl, by simp⟩
          clear hG HBAD HMUCH HSUC
          go_wp2_with (go_at_call 48; refine (iWidthOk _ _).mono ?_; rintro e w' ⟨rfl, rfl⟩; rw [hd])
          rw [← HG.out]
          go_loopw [4, 29] (fun v i wi => ∃ j : Nat, (j : Int) ≤ bt ∧ i = .int .i64 j ∧ Owb wi w.heap.size v (R ++ List.replicate j al) ∧ Below w.heap.size w wi ∧ wi.cell? ⟨G, 0, none⟩ = some (.bool al) ∧ G < wi.heap.size ∧ v.ownBlock ≠ some G) (fun _ i _ => bt.toNat - (intOf i).toNat)
          case atStart => exact ⟨0, by omega, rfl, by rw [List.replicate_zero, List.append_nil]; exact HOX.out, HBX.out, HCX.out.1, HCX.out.2, by rw [HG.out]; exact HNE.out⟩
          case round =>
            obtain ⟨j, hj, rfl, ho, hb, hcx, hgx, hne⟩ := hrel
            have HOI : Hid (Owb wr w.heap.size u4 (R ++ List.replicate j al)) := ho
            have HBI : Hid (Below w.heap.size w wr) := hb
            have HCI : Hid (wr.cell? ⟨G, 0, none⟩ = some (.bool al)) := hcx
            have HNI : Hid (u4.ownBlock ≠ some G) := hne
            have hbs : w.heap.size ≤ wr.heap.size := hb.size
            clear ho hb hne
            have HLN : Hid ((R ++ List.replicate j al).length = m + j) := by
              show _ = _
              rw [List.length_append, List.length_replicate, hrl]
            have HRJ : Hid (R ++ List.replicate (j + 1) al = (R ++ List.replicate j al) ++ [al]) := HRP.out j
            by_cases hjl : (j : Int) < bt
            · generalize R ++ List.replicate j al = L at HOI HLN HRJ
              go_wp2_with (at_builtin; go_must (refine app_bool _ rfl _ _ rfl w.heap.size u4 L al rfl rfl HOI.out hbs (by rw [HLN.out]; omega) ?_; intro g5 cp5 w5 ho5 hk5 hg5; have HO5 : Hid (Owb w5 w.heap.size (.slice (some ⟨g5, 0, none⟩) (L.length + 1) cp5) (L ++ [al])) := ho5; have HB5 : Hid (Below w.heap.size w w5) := HBI.out.trans (hk5.below (fun b hb => (HOI.out.lt b hb).1) hbs); have HC5 : Hid (w5.cell? ⟨G, 0, none⟩ = some (.bool al)) := (hk5.cell (p := ⟨G, 0, none⟩) hgx HNI.out).trans HCI.out; have hs5 := hk5.size; have hn5 : g5 ≠ G := (fun h => by subst h; rcases hg5 with h1 | h1; exact HNI.out h1; omega); clear ho5 hk5 hg5))
              go_roundw
              case rel => exact ⟨j + 1, by omega, by go_num, by rw [HRJ.out]; exact HO5.out, HB5.out, HC5.out, by omega, fun h => hn5 (by simpa [Value.ownBlock] using h)⟩
              case measure => simp [intOf]; omega
            · have HJ : Hid (rowTo q (k + 1) = R ++ List.replicate j al) := by
                show _ = _
                rw [HR1.out, show bt.toNat = j by omega]
              go_wp2
              go_roundw
              case rel => exact ⟨k + 1, m + bt.toNat, by omega, by go_num, HS.out, by omega, by rw [HJ.out]; exact HOI.out, HBI.out⟩
              case measure => simp [intOf]; omega
      · have hd : decide (1 ≤ bt ∧ bt ≤ 8) = false := decide_eq_false hbt
        have HF : Hid (fewB q = false) := HBAD.out hbt
        clear hbt
        go_wp2_with (go_at_call 48; refine (iWidthOk _ _).mono ?_; rintro e w' ⟨rfl, rfl⟩; rw [hd])
        go_ret2
        exact HNO.out HF.out _ _ HBX.out
    · have HK : Hid (k = q.length) := by show _ = _; omega
      have HF : Hid (fewB q = true) := few_yes (n := m) (by rw [← HK.out]; exact HM.out) hm12
      have HE : Hid (rowsL q = rowTo q k) := by
        show _ = _
        unfold rowsL; rw [HF.out, HK.out]; rfl
      have HI : Hid (∃ a' c', Ending.returned (.tuple #[.slice av m cv, .bool true]) = .returned (.tuple #[.slice a' (rowsL q).length c', .bool (fewB q)]) ∧ WBools wr w.heap.size a' (rowsL q)) := by
        obtain ⟨av', cv', hv', hw'⟩ := HO.out.form
        rw [HE.out, HF.out]
        exact ⟨av', cv', by rw [hv'], hw'⟩
      clear hb
      go_wp2
      go_ret2
      exact ⟨HI.out, HB.out⟩

end Go.Proofs.YtbnjndloeflgiaaGreat.Fm1

/- What the program's functions of chapter 2 are to do. -/
namespace Go.Proofs.YtbnjndloeflgiaaGreat.Lx1
open Go.RowKit
open Nd0 Nd3 Tm0 Tm1 Tm2 Tm3 Tm4 Tm5 Tm6 Tm11
/-- What the program's TermOk is to do. -/
def ITermOk : Prop := ∀ (w : World) (a : Option Addr) (l : List Nd) (c : Nat), Nodes w a l → l.length ≤ c → l.length ≤ 1048576 →
    Calls Tryz.prog 50 #[.slice a l.length c] w fun e w' => e = .returned (.bool (termOk l)) ∧ Below w.heap.size w w'
end Go.Proofs.YtbnjndloeflgiaaGreat.Lx1
namespace Go.Proofs.YtbnjndloeflgiaaGreat.Lx2
open Go.RowKit
open Nd0 Nd3 Tm0 Tm1 Tm2 Tm3 Tm4 Tm5 Tm6 Tm11
/-- What the program's Reached is to do. -/
def IReached : Prop := ∀ (w : World) (a : Option Addr) (l : List Nd) (c : Nat), Nodes w a l → l.length ≤ c → l.length ≤ 1048576 →
    Calls Tryz.prog 52 #[.slice a l.length c] w fun e w' => (∃ a' c', e = .returned (.slice a' (reachedL l).length c') ∧ WInts w' w.heap.size a' (reachedL l)) ∧ Below w.heap.size w w'
end Go.Proofs.YtbnjndloeflgiaaGreat.Lx2
namespace Go.Proofs.YtbnjndloeflgiaaGreat.Lx3
open Go.RowKit
open Nd0 Nd3 Tm0 Tm1 Tm2 Tm3 Tm4 Tm5 Tm6 Tm11
end Go.Proofs.YtbnjndloeflgiaaGreat.Lx3
namespace Go.Proofs.YtbnjndloeflgiaaGreat.Lx4
open Go.RowKit
open Nd0 Nd3 Tm0 Tm1 Tm2 Tm3 Tm4 Tm5 Tm6 Tm11
end Go.Proofs.YtbnjndloeflgiaaGreat.Lx4
namespace Go.Proofs.YtbnjndloeflgiaaGreat.Lx6
open Go.RowKit
open Nd0 Nd3 Tm0 Tm1 Tm2 Tm3 Tm4 Tm5 Tm6 Tm11
end Go.Proofs.YtbnjndloeflgiaaGreat.Lx6

/- What is kept, past blocks that were made since. -/
namespace Go.Proofs.YtbnjndloeflgiaaGreat.Kp1
open Go.RowKit
open Nd0 Rw0 Rw1 Tm6
theorem Kept.past {S T : Nat → Prop} {u v w : World} (h : Kept S u v) (k : Kept T v w) (hT : ∀ b, T b → S b ∨ u.heap.size ≤ b) : Kept S u w :=
  ⟨k.os.trans h.os, k.tape.trans h.tape, k.output.trans h.output, Nat.le_trans h.size k.size, fun i hi hb => (k.block i (Nat.lt_of_lt_of_le hi h.size) (fun t => by
    rcases hT i t with e | e
    · exact hb e
    · omega)).trans (h.block i hi hb)⟩
def Env (w : World) (g : Nat) (e : List Int) : Prop := Row w g 8 (fun i => .int .i64 (wd e (i : Int)))
theorem Env.kept {w w' : World} {g : Nat} {e : List Int} (h : Env w g e) {S : Nat → Prop} (k : Kept S w w') (hs : ¬ S g) : Env w' g e := Row.kept h k hs
theorem Env.lt {w : World} {g : Nat} {e : List Int} (h : Env w g e) : g < w.heap.size := Row.lt h (by omega)
theorem Env.set {w : World} {g : Nat} {e : List Int} (h : Env w g e) (he : e.length = 8) {p : Nat} (hp : p < 8) (x : Int) : Env (w.setCell ⟨g, p, none⟩ (.int .i64 x)) g (e.set p x) := row_set_int h he hp x
theorem Env.at {w : World} {g : Nat} {e : List Int} (h : Env w g e) {k : Int} (h0 : 0 ≤ k) (h7 : k ≤ 7) : w.cell? ⟨g, k.toNat, none⟩ = some (.int .i64 (wd e k)) ∧ w.frozen? ⟨g, k.toNat, none⟩ = false := by
  have := h k.toNat (by omega)
  dsimp only at this
  rw [Int.toNat_of_nonneg h0] at this
  exact this
end Go.Proofs.YtbnjndloeflgiaaGreat.Kp1

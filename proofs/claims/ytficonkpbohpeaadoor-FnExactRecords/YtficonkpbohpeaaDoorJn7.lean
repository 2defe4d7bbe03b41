/- The program's journal: readJournal, Records, Last and Tidy. -/
import Derived.Deep.CutBlock
import Derived.Test.YtficonkpbohpeaaDoorJn4
import Derived.Test.YtficonkpbohpeaaDoorJn6
import Derived.Test.YtficonkpbohpeaaDoorJn1
import Derived.Test.YtficonkpbohpeaaDoorPkT10
namespace Go.Proofs.YtficonkpbohpeaaDoor.Jn7
open Go.RowKit
open Tx0 Zk0 Zt0 Jn0 Jn4 Jn6 Ap4
open Nd0 (Kept lt_of_cell set_other set_same)
open Ss0 (bs bs_size bs_ext ret_str)
open Ss1 (tl tl_bs bs_tl tl_length tl_ext)
open Ss2 (Strs)
open Tc5 (kset)
set_option linter.unusedVariables false

/-- A block of three cells. -/
structure La3 (W : World) (b : Nat) (x y z : Value) : Prop where
  c0 : W.cell? ⟨b, 0, none⟩ = some x
  c1 : W.cell? ⟨b, 1, none⟩ = some y
  c2 : W.cell? ⟨b, 2, none⟩ = some z
  f0 : W.frozen? ⟨b, 0, none⟩ = false
  f1 : W.frozen? ⟨b, 1, none⟩ = false
  f2 : W.frozen? ⟨b, 2, none⟩ = false
theorem La3.lt {W : World} {b : Nat} {x y z : Value} (h : La3 W b x y z) : b < W.heap.size := World.block_lt_of_cell? _ _ h.c0
theorem La3.kept {W W' : World} {b : Nat} {x y z : Value} (h : La3 W b x y z) {S : Nat → Prop} (k : Kept S W W') (hs : ¬ S b) : La3 W' b x y z :=
  ⟨by rw [k.cell (p := ⟨b, 0, none⟩) h.lt hs]; exact h.c0, by rw [k.cell (p := ⟨b, 1, none⟩) h.lt hs]; exact h.c1, by rw [k.cell (p := ⟨b, 2, none⟩) h.lt hs]; exact h.c2, by rw [k.frozen (p := ⟨b, 0, none⟩) h.lt hs]; exact h.f0, by rw [k.frozen (p := ⟨b, 1, none⟩) h.lt hs]; exact h.f1, by rw [k.frozen (p := ⟨b, 2, none⟩) h.lt hs]; exact h.f2⟩
theorem La3.below {W W' : World} {b : Nat} {x y z : Value} (h : La3 W b x y z) (k : Below W.heap.size W W') : La3 W' b x y z :=
  h.kept (S := fun _ => False) (Kept.ofBelow k) (fun h => h)
theorem La3.made (W : World) (x y z : Value) (T : Nat) : La3 (W.alloc (.cells #[x, y, z] T)) W.heap.size x y z := ⟨by simp, by simp, by simp, by simp, by simp, by simp⟩
theorem La3.alloc {W : World} {b : Nat} {x y z : Value} (h : La3 W b x y z) (o : Obj) : La3 (W.alloc o) b x y z := h.kept (S := fun _ => False) ((Kept.refl _ _).alloc _) (fun h => h)
theorem La3.put {W : World} {b : Nat} {x y z : Value} (h : La3 W b x y z) (u v t : Value) : La3 (((W.setCell ⟨b, 0, none⟩ u).setCell ⟨b, 1, none⟩ v).setCell ⟨b, 2, none⟩ t) b u v t :=
  ⟨by rw [set_other (by simp), set_other (by simp)]; exact set_same h.c0, by rw [set_other (by simp)]; exact set_same (by rw [set_other (by simp)]; exact h.c1), set_same (by rw [set_other (by simp), set_other (by simp)]; exact h.c2),
    by rw [World.frozen?_setCell, World.frozen?_setCell, World.frozen?_setCell]; exact h.f0, by rw [World.frozen?_setCell, World.frozen?_setCell, World.frozen?_setCell]; exact h.f1, by rw [World.frozen?_setCell, World.frozen?_setCell, World.frozen?_setCell]; exact h.f2⟩
theorem fin3 {w W : World} {r : Nat} {a b c : Value} (hr : La3 W r a b c) (hb : Below w.heap.size w W) (hw : w.heap.size ≤ r) (x y z : Value) :
    ∃ W', W' = ((W.setCell ⟨r, 0, none⟩ x).setCell ⟨r, 1, none⟩ y).setCell ⟨r, 2, none⟩ z ∧ La3 W' r x y z ∧ Below w.heap.size w W' ∧ Kept (fun b => b = r) W W' := by
  have K : Kept (fun b => b = r) W (((W.setCell ⟨r, 0, none⟩ x).setCell ⟨r, 1, none⟩ y).setCell ⟨r, 2, none⟩ z) := kset (S := fun b => b = r) (kset (S := fun b => b = r) (kset (S := fun b => b = r) (Kept.refl (fun b => b = r) W) rfl _) rfl _) rfl _
  exact ⟨_, rfl, hr.put x y z, hb.trans (K.below (fun b hb => by omega) hb.size), K⟩
def bN : Value → Nat
  | .bool true => 1
  | _ => 0
/-- What readJournal answers. -/
def JrP (B : Nat) (w' : World) (S : ByteArray) (e : Ending) : Prop :=
  ∃ g c, e = .returned (.agg #[.string S, .int .i64 (endN (tl S) : Int), .slice (some ⟨g, 0, none⟩) (rcs (tl S)).length c]) ∧ Ost w' B (.slice (some ⟨g, 0, none⟩) (rcs (tl S)).length c) (rcs (tl S))
theorem JrP.of {B : Nat} {w' : World} {S : ByteArray} {L : List (List UInt8)} {p g c n : Nat} (h : rcs (tl S) = L ∧ endN (tl S) = p) (hn : n = L.length) (ho : Ost w' B (.slice (some ⟨g, 0, none⟩) n c) L) : JrP B w' S (.returned (.agg #[.string S, .int .i64 (p : Int), .slice (some ⟨g, 0, none⟩) n c])) := by
  subst hn
  exact ⟨g, c, by rw [h.1, h.2], by rw [h.1]; exact ho⟩
/-- Reading under way: the journal's block b, the result's block r, the texts' block g; what next has told. -/
structure Jg (w wr : World) (b : Nat) (S : ByteArray) (L : List (List UInt8)) (p q g cp n : Nat) (t wh : Value) : Prop where
  rd : Rd S L p
  ln : n = L.length
  rj : RJ wr b S q (.slice (some ⟨g, 0, none⟩) n cp)
  la : La3 wr w.heap.size (.string ⟨#[]⟩) (.int .i64 0) (.slice none 0 0)
  os : Ost wr w.heap.size (.slice (some ⟨g, 0, none⟩) n cp) L
  g0 : g ≠ w.heap.size
  g2 : g ≠ b
  bl : Below w.heap.size w wr
  no : recN ((tl S).drop p) = none → t = .string ⟨#[]⟩ ∧ wh = .bool false ∧ q = p
  ys : ∀ s k, recN ((tl S).drop p) = some (s, k) → t = .string (bs s) ∧ wh = .bool true ∧ q = p + k
theorem Jg.next {w wr w' : World} {b : Nat} (hb : w.heap.size < b) {S : ByteArray} {L : List (List UInt8)} {p g cp n : Nat} {e : Ending} (hrd : Rd S L p) (hn : n = L.length)
    (la : La3 wr w.heap.size (.string ⟨#[]⟩) (.int .i64 0) (.slice none 0 0)) (os : Ost wr w.heap.size (.slice (some ⟨g, 0, none⟩) n cp) L) (g0 : g ≠ w.heap.size) (g2 : g ≠ b) (bl : Below w.heap.size w wr)
    (h : NxP w' b S p (.slice (some ⟨g, 0, none⟩) n cp) e) (hk : Kept (fun i => i = b) wr w') : ∃ q t wh, e = .returned (.tuple #[t, wh]) ∧ Jg w w' b S L p q g cp n t wh := by
  have la' := la.kept hk (by omega)
  have os' := Ost.kept os hk (fun i hi => by
    have : i = g := by simpa [Value.ownBlock] using hi.symm
    omega)
  have bl' := bl.trans (hk.below (fun i hi => by omega) bl.size)
  cases hc : recN ((tl S).drop p) with
  | none =>
    obtain ⟨h1, h2⟩ := h.1 hc
    exact ⟨p, _, _, h1, hrd, hn, h2, la', os', g0, g2, bl', fun _ => ⟨rfl, rfl, rfl⟩, fun s k e => by rw [hc] at e; cases e⟩
  | some x =>
    obtain ⟨s, k⟩ := x
    obtain ⟨h1, h2⟩ := h.2 s k hc
    exact ⟨p + k, _, _, h1, hrd, hn, h2, la', os', g0, g2, bl', (fun e => by rw [hc] at e; cases e), fun s' k' e => by rw [hc] at e; cases e; exact ⟨rfl, rfl, rfl⟩⟩

set_option maxRecDepth 100000 in
set_option maxHeartbeats 4000000 in
theorem iRead (S : ByteArray) (w : World) (hT : TabZ w) (hs : S.size ≤ 2000000) :
    Calls Tryd.prog 30 #[.string S] w fun e w' => JrP w.heap.size w' S e ∧ Below w.heap.size w w' := by
  have HT : Hid (TabZ w) := hT
  have hsz : ¬ (2000000 : Int) < (S.size : Int) := by omega
  obtain ⟨W1, hW1⟩ : ∃ W, W = ((w.alloc (.cells #[.string ⟨#[]⟩, .int .i64 0, .slice none 0 0] 46)).alloc (.cells #[] 9)).alloc (.cells #[.string S, .int .i64 0, .slice (some ⟨w.heap.size + 1, 0, none⟩) 0 0] 46) := ⟨_, rfl⟩
  have hs1 : (w.alloc (.cells #[.string ⟨#[]⟩, .int .i64 0, .slice none 0 0] 46)).heap.size = w.heap.size + 1 := by simp
  have hs2 : ((w.alloc (.cells #[.string ⟨#[]⟩, .int .i64 0, .slice none 0 0] 46)).alloc (.cells #[] 9)).heap.size = w.heap.size + 2 := by simp
  have HLA : Hid (La3 W1 w.heap.size (.string ⟨#[]⟩) (.int .i64 0) (.slice none 0 0)) := by
    show La3 _ _ _ _ _
    rw [hW1]
    exact ((La3.made _ _ _ _ _).alloc _).alloc _
  have HRJ : Hid (RJ W1 (w.heap.size + 2) S 0 (.slice (some ⟨w.heap.size + 1, 0, none⟩) 0 0)) := by
    show RJ _ _ _ _ _
    rw [hW1]
    have h3 := La3.made ((w.alloc (.cells #[.string ⟨#[]⟩, .int .i64 0, .slice none 0 0] 46)).alloc (.cells #[] 9)) (.string S) (.int .i64 0) (.slice (some ⟨w.heap.size + 1, 0, none⟩) 0 0) 46
    rw [hs2] at h3
    exact ⟨h3.c0, h3.c1, h3.c2, h3.f1, h3.f2⟩
  have HOS : Hid (Ost W1 w.heap.size (.slice (some ⟨w.heap.size + 1, 0, none⟩) 0 0) []) := by
    show Ost _ _ _ _
    rw [hW1]
    have h4 := Ost.lit (w.alloc (.cells #[.string ⟨#[]⟩, .int .i64 0, .slice none 0 0] 46)) w.heap.size (by omega)
    rw [hs1] at h4
    exact World.ownsRow.alloc h4 _
  have HBL : Hid (Below w.heap.size w W1) := by
    show Below _ _ _
    rw [hW1]
    exact (((Below.refl _ _).alloc (Nat.le_refl _) _).alloc (by omega) _).alloc (by omega) _
  clear hs1 hs2 hT
  go_enter Tryd.func30, Tryd.ntmps30
  go_upto_region 2 with fail
  rw [← hW1]
  obtain ⟨b, hb⟩ : ∃ b, w.heap.size + 2 = b := ⟨_, rfl⟩
  rw [show w.heap.size + 1 + 1 = b from hb]
  rw [hb] at HRJ
  have hbw : w.heap.size < b := by omega
  obtain ⟨g0, hg0⟩ : ∃ g, g = w.heap.size + 1 := ⟨_, rfl⟩
  have HG0 : Hid (g0 ≠ w.heap.size) := by show _ ≠ _; omega
  have HG2 : Hid (g0 ≠ b) := by show _ ≠ _; omega
  rw [← hg0] at HOS HRJ ⊢
  clear hW1 hb hg0
  go_wp2_with fail
  refine (iNext W1 b S 0 _ (HT.out.below HBL.out) HRJ.out (by omega) (Nat.zero_le _)).mono ?_
  rintro e w2 ⟨hP, hK⟩
  obtain ⟨q0, t0, wh0, rfl, hJ⟩ := Jg.next hbw (Rd.zero S) rfl HLA.out HOS.out HG0.out HG2.out HBL.out hP hK
  have HJ0 : Hid (Jg w w2 b S [] 0 q0 g0 0 0 t0 wh0) := hJ
  clear hP hK hJ HLA HOS HRJ HG0 HG2 HBL W1
  go_wp2
  go_loopw [4, 5] (fun t wh wr => ∃ (L : List (List UInt8)) (p q g cp n : Nat), Jg w wr b S L p q g cp n t wh) (fun _ wh wr => S.size - (intOf ((wr.cell? ⟨b, 1, none⟩).getD undef)).toNat + bN wh)
  case atStart => exact ⟨[], 0, q0, g0, 0, 0, HJ0.out⟩
  case round =>
    clear HJ0
    obtain ⟨L, p, q, g, cp, n, hJ⟩ := hrel
    cases hc : recN ((tl S).drop p) with
    | none =>
      obtain ⟨rfl, rfl, rfl⟩ := hJ.no hc
      have HF : Hid (rcs (tl S) = L ∧ endN (tl S) = q) := hJ.rd.end_ hc
      have HJ : Hid (Jg w wr b S L q q g cp n (.string ⟨#[]⟩) (.bool false)) := hJ
      have HFN : Hid _ := fin3 hJ.la hJ.bl (Nat.le_refl _) (.string S) (.int .i64 (q : Int)) (.slice (some ⟨g, 0, none⟩) n cp)
      obtain ⟨c0, c1, c2, _, _⟩ := hJ.rj
      obtain ⟨r0, r1, r2, r3, r4, r5⟩ := hJ.la
      clear hJ hc
      go_wp2
      obtain ⟨W, hW, hz, hbz, hkz⟩ := HFN.out
      rw [← hW]
      obtain ⟨z0, z1, z2, _, _, _⟩ := hz
      refine bodyPost_ret (v := .agg #[.string S, .int .i64 (q : Int), .slice (some ⟨g, 0, none⟩) n cp]) (by simp [results, Tryd.results30, go_sem, z0, z1, z2]) rfl ⟨JrP.of HF.out HJ.out.ln (Ost.kept HJ.out.os hkz (fun i hi => ?_)), hbz⟩
      have : i = g := by simpa [Value.ownBlock] using hi.symm
      have := HJ.out.g0
      omega
    | some x =>
      obtain ⟨s, k⟩ := x
      obtain ⟨rfl, rfl, hq⟩ := hJ.ys s k hc
      have HM : Hid (Rd S (L ++ [s]) q ∧ 3 ≤ k ∧ q ≤ S.size) := by rw [hq]; exact hJ.rd.more hc
      have HQ : Hid (q = p + k) := hq
      have HJ : Hid (Jg w wr b S L p q g cp n (.string (bs s)) (.bool true)) := hJ
      obtain ⟨c0, c1, c2, f1, f2⟩ := hJ.rj
      have hbl := hJ.rj.lt
      have HC1 : Hid (wr.cell? ⟨b, 1, none⟩ = some (.int .i64 q)) := c1
      have HLL : Hid (L.length ≤ 1048576) := by show _ ≤ _; have := hJ.rd.few; have := hJ.rd.le; omega
      have HN : Hid (L.length = n) := hJ.ln.symm
      clear hJ hc hq c0 c1
      go_wp2_with (at_builtin; go_must (refine app_str wr rfl _ _ rfl w.heap.size (.slice (some ⟨g, 0, none⟩) n cp) L s rfl rfl HJ.out.os HJ.out.bl.size HLL.out ?_; rw [HN.out]; intro g5 cp5 w5 ho5 hk5 hg5; have HO5 : Hid (Ost w5 w.heap.size (.slice (some ⟨g5, 0, none⟩) (n + 1) cp5) (L ++ [s])) := ho5; have HK5 : Hid (Kept (fun i => (Value.slice (some ⟨g, 0, none⟩) n cp).ownBlock = some i) wr w5) := hk5; have HG5 : Hid ((Value.slice (some ⟨g, 0, none⟩) n cp).ownBlock = some g5 ∨ wr.heap.size ≤ g5) := hg5; have HR5 : Hid (RJ w5 b S q (.slice (some ⟨g, 0, none⟩) n cp)) := HJ.out.rj.kept hk5 (fun e => HJ.out.g2 (by simpa [Value.ownBlock] using e)); clear ho5 hk5 hg5 c2 f1 f2; have c2 := HR5.out.c2; have f2 := HR5.out.f2))
      clear c2 f2
      have HR6 : Hid _ := HR5.out.put (.slice (some ⟨g5, 0, none⟩) (n + 1) cp5)
      have HK6 : Hid (Kept (fun i => i = b) w5 (w5.setCell ⟨b, 2, none⟩ (.slice (some ⟨g5, 0, none⟩) (n + 1) cp5))) := kset (S := fun i => i = b) (Kept.refl _ _) rfl _
      obtain ⟨w6, hw6⟩ : ∃ W, W = w5.setCell ⟨b, 2, none⟩ (.slice (some ⟨g5, 0, none⟩) (n + 1) cp5) := ⟨_, rfl⟩
      rw [← hw6] at HR6 HK6 ⊢
      clear hw6
      have hgn : g5 ≠ w.heap.size ∧ g5 ≠ b := by
        have h0 := HJ.out.la.lt
        have h1 := HJ.out.rj.lt
        have h2 := HJ.out.g0
        have h3 := HJ.out.g2
        rcases HG5.out with e | e
        · have : g5 = g := by simpa [Value.ownBlock] using e.symm
          omega
        · omega
      have HB5 : Hid (Below w.heap.size w w5) := HJ.out.bl.trans (HK5.out.below (fun i hi => (HJ.out.os.lt i hi).1) HJ.out.bl.size)
      have HB6 : Hid (Below w.heap.size w w6) := HB5.out.trans (HK6.out.below (fun i hi => by omega) HB5.out.size)
      have HLA6 : Hid (La3 w6 w.heap.size (.string ⟨#[]⟩) (.int .i64 0) (.slice none 0 0)) := (HJ.out.la.kept HK5.out (fun e => HJ.out.g0 (by simpa [Value.ownBlock] using e))).kept HK6.out (by omega)
      have HO6 : Hid (Ost w6 w.heap.size (.slice (some ⟨g5, 0, none⟩) (n + 1) cp5) (L ++ [s])) := Ost.kept HO5.out HK6.out (fun i hi => by
        have : i = g5 := by simpa [Value.ownBlock] using hi.symm
        omega)
      refine (iNext w6 b S q _ (HT.out.below HB6.out) HR6.out (by omega) HM.out.2.2).mono ?_
      rintro e w7 ⟨hP, hK⟩
      obtain ⟨q7, t7, wh7, rfl, hJ⟩ := Jg.next hbw HM.out.1 (by rw [List.length_append, HN.out]; rfl) HLA6.out HO6.out hgn.1 hgn.2 HB6.out hP hK
      have HJ7 : Hid (Jg w w7 b S (L ++ [s]) q q7 g5 cp5 (n + 1) t7 wh7) := hJ
      clear hP hK hJ
      go_wp2
      go_roundw
      case rel => exact ⟨L ++ [s], q, q7, g5, cp5, n + 1, HJ7.out⟩
      case measure =>
        have hq := HM.out.2.2
        have h7 := HJ7.out.rj.c1
        simp only [h7, HC1.out, Option.getD_some, intOf, Int.toNat_natCast]
        cases hc : recN ((tl S).drop q) with
        | none =>
          obtain ⟨_, e2, e3⟩ := HJ7.out.no hc
          rw [e2, e3]
          simp [bN]
        | some y =>
          obtain ⟨s7, k7⟩ := y
          obtain ⟨_, e2, e3⟩ := HJ7.out.ys s7 k7 hc
          have := HJ7.out.rd.more hc
          rw [e2, e3]
          simp [bN]
          omega
set_option maxRecDepth 100000 in
set_option maxHeartbeats 2000000 in
theorem iRecords (S : ByteArray) (w : World) (hT : TabZ w) (hs : S.size ≤ 2000000) :
    Calls Tryd.prog 12 #[.string S] w fun e w' => RcP w.heap.size w' S e ∧ Below w.heap.size w w' := by
  have HR : Hid _ := iRead S w hT hs
  clear hT
  go_enter Tryd.func12, Tryd.ntmps12
  go_wp2_with fail
  refine Calls.mono HR.out ?_
  rintro e w1 ⟨⟨g, c, rfl, ho⟩, hb⟩
  have HB : Hid (Below w.heap.size w w1) := hb
  have HO : Hid (Ost w1 w.heap.size (.slice (some ⟨g, 0, none⟩) (rcs (tl S)).length c) (rcs (tl S))) := ho
  clear hb HR ho
  obtain ⟨n, hn⟩ : ∃ n, n = (rcs (tl S)).length := ⟨_, rfl⟩
  have HN : Hid (n = (rcs (tl S)).length) := hn
  rw [← hn] at HO ⊢
  clear hn
  obtain ⟨p, hp⟩ : ∃ p, p = endN (tl S) := ⟨_, rfl⟩
  have HP : Hid (endN (tl S) = p) := hp.symm
  rw [← hp]
  clear hp
  go_upto_region 2 with fail
  obtain ⟨W2, hW2⟩ : ∃ X, X = w1.alloc (.cells #[.string S, .int .i64 (p : Int), .slice (some ⟨g, 0, none⟩) n c] 46) := ⟨_, rfl⟩
  obtain ⟨q, hq⟩ : ∃ q, q = w1.heap.size := ⟨_, rfl⟩
  have HL : Hid (La3 W2 q (.string S) (.int .i64 (p : Int)) (.slice (some ⟨g, 0, none⟩) n c)) := by rw [hW2, hq]; exact La3.made _ _ _ _ _
  have HK2 : Hid (Kept (fun _ => False) w1 W2) := by rw [hW2]; exact (Kept.refl _ _).alloc _
  rw [← hW2, ← hq]
  clear hW2 hq
  obtain ⟨c0, c1, c2, _, _, _⟩ := HL.out
  go_wp2_with fail
  go_quiet (fail)
  go_wp2
  go_ret2
  have HK3 : Kept (fun _ => False) w1 (W2.drewN nq) := HK2.out.drewN nq
  exact ⟨RcP.of ⟨rfl, HP.out⟩ HN.out (Ost.kept HO.out HK3 (fun _ _ h => h)), HB.out.trans (HK3.below (fun _ h => h.elim) HB.out.size)⟩
set_option maxRecDepth 100000 in
set_option maxHeartbeats 2000000 in
theorem iLast (S : ByteArray) (w : World) (hT : TabZ w) (hs : S.size ≤ 2000000) :
    Calls Tryd.prog 16 #[.string S] w fun e w' => e = .returned (.tuple #[.string (bs (lst (rcs (tl S)))), .bool (decide (0 < (rcs (tl S)).length))]) ∧ Below w.heap.size w w' := by
  have HR : Hid _ := iRead S w hT hs
  clear hT
  go_enter Tryd.func16, Tryd.ntmps16
  go_wp2_with fail
  refine Calls.mono HR.out ?_
  rintro e w1 ⟨⟨g, c, rfl, ho⟩, hb⟩
  have HB : Hid (Below w.heap.size w w1) := hb
  clear hb HR
  obtain ⟨p, hp⟩ : ∃ p : Int, p = (endN (tl S) : Int) := ⟨_, rfl⟩
  rw [← hp]
  clear hp
  have hfd : ∀ (n : Nat) (W : World), (Instr.field 46 (.agg #[.string S, .int .i64 p, .slice (some ⟨g, 0, none⟩) n c]) 1).run Tryd.prog W = .ok (.slice (some ⟨g, 0, none⟩) n c) W := fun _ _ => by kernel_rfl
  by_cases h0 : 0 < (rcs (tl S)).length
  · obtain ⟨a, c2, ea, hst⟩ := ho.form
    cases ea
    have hcell := strs_at hst (i := (rcs (tl S)).length - 1) (by omega)
    obtain ⟨g2, o2, e2, hcl⟩ := hcell
    cases e2
    have HF : Hid (lst (rcs (tl S)) = (rcs (tl S))[(rcs (tl S)).length - 1]) := lst_at h0
    have HD : Hid (decide (0 < (rcs (tl S)).length) = true) := decide_eq_true h0
    have hle : (rcs (tl S)).length ≤ 1000000 := by have := cat_len (rcs (tl S)); have h3 := end_le (tl S); rw [tl_length] at h3; unfold endN at h3; omega
    obtain ⟨T, hT⟩ : ∃ T, T = bs (rcs (tl S))[(rcs (tl S)).length - 1] := ⟨_, rfl⟩
    rw [← hT] at hcl
    obtain ⟨n, hn⟩ : ∃ n, n = (rcs (tl S)).length := ⟨_, rfl⟩
    have HFE : Hid (Ending.returned (.tuple #[.string T, .bool true]) = .returned (.tuple #[.string (bs (lst (rcs (tl S)))), .bool (decide (0 < (rcs (tl S)).length))])) := by show _ = _; rw [HD.out, HF.out, hT]
    rw [← hn] at h0 hcl hle ⊢
    rw [Nat.zero_add] at hcl
    clear hT hn ho hst HF HD
    have hz : ((n : Int) == 0) = false := beq_eq_false_iff_ne.2 (by omega)
    obtain ⟨m, rfl⟩ : ∃ m, n = m + 1 := ⟨n - 1, by omega⟩
    have hw1 : wrap64 (((m + 1 : Nat) : Int) - 1) = (m : Int) := by unfold wrap64; omega
    rw [show m + 1 - 1 = m by omega] at hcl
    go_wp2
    go_ret2
    exact ⟨HFE.out, HB.out⟩
  · have hz : (rcs (tl S)).length = 0 := by omega
    have he : rcs (tl S) = [] := List.eq_nil_of_length_eq_zero hz
    have HFE : Hid (Ending.returned (.tuple #[.string ⟨#[]⟩, .bool false]) = .returned (.tuple #[.string (bs (lst (rcs (tl S)))), .bool (decide (0 < (rcs (tl S)).length))])) := by show _ = _; rw [he]; rfl
    rw [hz]
    clear ho hz he
    go_wp2
    go_ret2
    exact ⟨HFE.out, HB.out⟩
set_option maxRecDepth 100000 in
set_option maxHeartbeats 2000000 in
theorem iTidy (S : ByteArray) (w : World) (hT : TabZ w) (hs : S.size ≤ 2000000) :
    Calls Tryd.prog 14 #[.string S] w fun e w' => e = .returned (.string (bs (cat (rcs (tl S))))) ∧ Below w.heap.size w w' := by
  have HR : Hid _ := iRead S w hT hs
  have hle : (endN (tl S) : Int) ≤ (S.size : Int) := by have := end_le (tl S); rw [tl_length] at this; omega
  have HTN : Hid (∀ W, Calls Tryd.prog 19 #[.string S, .int .i64 (endN (tl S) : Int)] W fun e w' => e = .returned (.string (bs (cat (rcs (tl S))))) ∧ w' = W) := fun W => by
    have := Jn1.iTorn S (endN (tl S) : Int) W (by unfold maxLen; omega)
    rw [← Jn1.trn_mid (by omega) hle, Int.toNat_natCast, ← bs_tl (S.extract 0 (endN (tl S))), tl_ext, List.drop_zero, take_end] at this
    exact this
  clear hT hle
  obtain ⟨p, hp⟩ : ∃ p : Int, p = (endN (tl S) : Int) := ⟨_, rfl⟩
  obtain ⟨n, hn⟩ : ∃ n, n = (rcs (tl S)).length := ⟨_, rfl⟩
  rw [← hp] at HTN
  have HPN : Hid (p = (endN (tl S) : Int) ∧ n = (rcs (tl S)).length) := ⟨hp, hn⟩
  clear hp hn
  go_enter Tryd.func14, Tryd.ntmps14
  go_wp2_with fail
  refine Calls.mono HR.out ?_
  rintro e w1 ⟨⟨g, c, rfl, ho⟩, hb⟩
  have HB : Hid (Below w.heap.size w w1) := hb
  clear hb HR ho
  rw [← HPN.out.1, ← HPN.out.2]
  have hfd : ∀ (W : World), (Instr.field 46 (.agg #[.string S, .int .i64 p, .slice (some ⟨g, 0, none⟩) n c]) 0).run Tryd.prog W = .ok (.agg #[.string S, .int .i64 p]) W := fun _ => by kernel_rfl
  have hfe : ∀ (W : World), (Instr.field 44 (.agg #[.string S, .int .i64 p]) 1).run Tryd.prog W = .ok (.int .i64 p) W := fun _ => by kernel_rfl
  go_wp2_with fail
  refine (HTN.out _).mono ?_
  rintro e w2 ⟨rfl, rfl⟩
  go_wp2
  go_ret
  exact ⟨rfl, HB.out⟩
end Go.Proofs.YtficonkpbohpeaaDoor.Jn7

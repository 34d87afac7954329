/-
  For every input the call of lavabolaw8.RingSame returns true and leaves its arguments as they were; no condition.
-/
import Derived.Test.YtodmjclkfadooaaTold8
import Derived.Test.YtodmjclkfadooaaRingApply
import Derived.Test.YtodmjclkfadooaaInts
import Derived.Test.YtodmjclkfadooaaRows
import Derived.WalkKit
import Derived.ProofKit
import Derived.OpenShut
import Derived.ShutString
import Derived.ChangeOld
import Derived.Below
namespace Go.Proofs.Ytodmjclkfadooaa.ringSame
open Go.ChangeShapes Go.WideShapes Go.ChangeAt Go.RowKit
open Go.ChangeMaps (open_string shut_string)
open Go.Conc
open Go.Proofs.Ytodmjclkfadooaa.Mem Go.Proofs.Ytodmjclkfadooaa.Blk Go.Proofs.Ytodmjclkfadooaa.ListM Go.Proofs.Ytodmjclkfadooaa.Rowed
open Go.Proofs.Ytodmjclkfadooaa.ListC (ListPost front_any back_any)
open Go.Proofs.Ytodmjclkfadooaa.ListD (new_good out_any all_any NewPost)
open Go.Proofs.Ytodmjclkfadooaa.Chan Go.Proofs.Ytodmjclkfadooaa.RingC Go.Proofs.Ytodmjclkfadooaa.RingT Go.Proofs.Ytodmjclkfadooaa.RingF Go.Proofs.Ytodmjclkfadooaa.RingA Go.Proofs.Ytodmjclkfadooaa.IntsC Go.Proofs.Ytodmjclkfadooaa.Told8 Go.Proofs.Ytodmjclkfadooaa.Stages
set_option linter.unusedVariables false

theorem own : ownKnob Try.prog.godebug = none := by kernel_rfl
theorem laidOut : laidOutB Try.prog = true := by kernel_rfl

/-- WHAT THE WALK IS TOLD OF A SLICE OF INTEGERS THAT CAME IN: it is nil; or it leads to a row of 'cap' cells, the numbers 'zs' (the first 'len' are its elements, the rest its spare room), each fitting its kind. -/
def IsRow (k : IntKind) (w : World) (a : Option Addr) (len cap : Nat) (zs : List Int) : Prop :=
  (a = none ∧ len = 0 ∧ cap = 0 ∧ zs = []) ∨
  ∃ x, a = some x ∧ len ≤ cap ∧ cap ≤ maxLen ∧ zs.length = cap ∧ (∀ i, i < zs.length → w.cell? (x.add i) = some (.int k (zs.getD i 0))) ∧ ∀ n ∈ zs, (Lit.int k n).wf = true

/-- Two lists and a ring lie apart. -/
structure Apart (w : World) (B d da Da db Db : Nat) : Prop where
  ab : ∀ k, Own da Da k → ¬ Own db Db k
  ad : ∀ k, Own da Da k → k ≠ d
  bd : ∀ k, Own db Db k → k ≠ d
  la : ∀ k, Own da Da k → w.heap.size ≤ k
  lb : ∀ k, Own db Db k → w.heap.size ≤ k
  ld : w.heap.size ≤ d
  lB : w.heap.size ≤ B
/-- Two lists and a ring, side by side. -/
structure Tri (w : World) (B d da Da db Db : Nat) (za zb : List Nat) (rs : List Int) (wx : World) : Prop where
  a : ListAt wx da Da 20 za
  b : ListAt wx db Db 20 zb
  r : RingAt wx B d rs
  g : Grow w wx
theorem list_notChan {w : World} {d D n : Nat} {zs : List Nat} (h : ListAt w d D n zs) (k : Nat) (hk : Own d D k) : ¬ IsChan w k := by
  obtain ⟨A, B, I, hl, _⟩ := h.lnk
  rcases hk with rfl | rfl
  · obtain ⟨cur, t, hb, _⟩ := hl.hd
    exact notChan_cells hb
  · obtain ⟨cur, t, hb, _⟩ := hl.ln
    exact notChan_cells hb
theorem grow_then {F : Nat → Prop} {w wx wy : World} (h : Grow w wx) (k : Kept F wx wy) (hF : ∀ i, F i → w.heap.size ≤ i) : Grow w wy :=
  h.then k fun i hi hf => by have := hF i hf; omega
section
variable {w wx wy : World} {B d da Da db Db : Nat} {za zb zc : List Nat} {rs us : List Int}
theorem Tri.opA (h : Tri w B d da Da db Db za zb rs wx) (ap : Apart w B d da Da db Db) (hl : ListAt wy da Da 20 zc) (hk : Kept (Own da Da) wx wy) : Tri w B d da Da db Db zc zb rs wy :=
  ⟨hl, h.b.kept hk ap.ab, h.r.kept hk (fun x => ap.ad _ x rfl) (list_notChan h.a), grow_then h.g hk ap.la⟩
theorem Tri.opB (h : Tri w B d da Da db Db za zb rs wx) (ap : Apart w B d da Da db Db) (hl : ListAt wy db Db 20 zc) (hk : Kept (Own db Db) wx wy) : Tri w B d da Da db Db za zc rs wy :=
  ⟨h.a.kept hk (fun k x y => ap.ab k y x), hl, h.r.kept hk (fun x => ap.bd _ x rfl) (list_notChan h.b), grow_then h.g hk ap.lb⟩
theorem Tri.opR (h : Tri w B d da Da db Db za zb rs wx) (ap : Apart w B d da Da db Db) (hr : RingAt wy B d us) (hk : Kept (RF B d wx) wx wy) : Tri w B d da Da db Db za zb us wy :=
  ⟨h.a.kept hk (fun k x y => by rcases x with e | ⟨_, x⟩; exact ap.ad k y e; exact list_notChan h.a k y x), h.b.kept hk (fun k x y => by rcases x with e | ⟨_, x⟩; exact ap.bd k y e; exact list_notChan h.b k y x), hr, RF.final h.g hk ap.lB ap.ld⟩
theorem Tri.grow (h : Tri w B d da Da db Db za zb rs wx) (hk : Grow wx wy) : Tri w B d da Da db Db za zb rs wy := ⟨h.a.grow hk, h.b.grow hk, h.r.grow hk, h.g.trans hk⟩
end
theorem back_range {j : Nat} (hj : j < 20) : okF 20 (List.range j) (j : Int) = true ∧ backL 20 (List.range j) (j : Int) = List.range (j + 1) := by
  have h1 : okF 20 (List.range j) (j : Int) = true := by simp [okF]; omega
  refine ⟨h1, ?_⟩
  unfold backL
  rw [if_pos h1, Int.toNat_natCast, List.range_succ]
/-- All are in. -/
def Full (zs : List Nat) : Prop := ∀ x, x < 20 → x ∈ zs
theorem Full.ok {zs : List Nat} (h : Full zs) {K : Nat} (hK : K < 20) : okO zs (K : Int) = true := by simp [okO, h K hK]
theorem mv_full {zs : List Nat} (h : Full zs) {K : Nat} (hK : K < 20) : frontL 20 (outL zs (K : Int)) (K : Int) = mv 20 zs (K : Int) ∧ (zs.Nodup → Full (mv 20 zs (K : Int))) := by
  have ho := h.ok hK
  refine ⟨by rw [mv, if_pos ho], fun hn x hx => ?_⟩
  rw [mv, if_pos ho, outL, if_pos ho, Int.toNat_natCast, frontL]
  by_cases e : x = K
  · split
    · subst e; rw [Int.toNat_natCast]; simp
    · rename_i hf
      exfalso
      apply hf
      have : K ∉ zs.erase K := fun hm => ((hn.mem_erase_iff).1 hm).1 rfl
      simp [okF, this]
      omega
  · have : x ∈ zs.erase K := (hn.mem_erase_iff).2 ⟨e, h x hx⟩
    split
    · simp [this]
    · exact this
theorem said_wait (rs : List Int) {K : Nat} (hK : K < 20) : toldBy rs (K : Int) ++ waitBy rs (K : Int) = rs ++ [(K : Int)] := by
  have hok : okT (K : Int) = true := by
    unfold okT
    rw [Bool.and_eq_true, decide_eq_true_eq, decide_eq_true_eq]
    omega
  unfold toldBy waitBy
  rw [hok]
  by_cases h : rs.length = 7
  · simp [h]
  · simp [h]
theorem told_len (rs : List Int) (f : Int) (h : rs.length ≤ 7) : (toldBy rs f).length ≤ 8 := by
  unfold toldBy
  split
  · simp; omega
  · simp
def ALoop (w : World) (B d da Da db Db g : Nat) (i : Value) (wr : World) : Prop :=
  ∃ j : Nat, j + g = 20 ∧ i = .int .i64 (j : Int) ∧ Tri w B d da Da db Db (List.range j) (List.range j) [] wr
def BLoop (w : World) (B d da Da db Db M g : Nat) (i : Value) (wr : World) : Prop :=
  ∃ (j : Nat) (za zb : List Nat) (rs : List Int), j + g = M ∧ i = .int .i64 (j : Int) ∧ Tri w B d da Da db Db za zb rs wr ∧ rs.length ≤ 7 ∧ applyL 20 za rs = zb ∧ Full zb

/-! ### STEP 1: THE WALK: the Go text returns true, AND WRITES NOTHING THAT WAS THERE: 'Below w.heap.size w w'' (Derived/Below.lean: '.refl', '.alloc', '.drew', '.setCell' at a new block, '.trans'). Open each 'IsRow' by 'rcases' AHEAD of 'go_enter'; part every test ahead of the walk. -/
set_option maxHeartbeats 4000000 in
theorem walk (a0 : Option Addr) (len0 cap0 : Nat) (z0 : List Int) (w : World) (w0 : IsRow .i64 w a0 len0 cap0 z0) :
    Calls Try.prog 6 #[.slice a0 len0 cap0] w fun e w' => e = .returned (.bool true) ∧ Below w.heap.size w w' := by
  obtain ⟨hs, hle, hcap, hwf⟩ := Sl.of_isRow w0
  unfold maxLen at hcap
  generalize z0.take len0 = zs at hs hwf
  have HS := Lib.hid hs
  clear hs hwf w0
  obtain ⟨M, hM1, hM100, hM⟩ : ∃ M, M ≤ len0 ∧ M ≤ 100 ∧ (M = len0 ∨ M = 100) := ⟨min len0 100, Nat.min_le_left _ _, Nat.min_le_right _ _, by omega⟩
  have HMM := Lib.hid hM
  have CN := Lib.hid fun (wx : World) => new_good (w := wx) 20 (by omega)
  simp only [Int.cast_ofNat_Int] at CN
  clear hM
  go_enter Try.func6, Try.ntmps6
  go_wp2_with (first
    | (go_at_call 8; (with_reducible refine gnew_any.mono ?_); rintro e w4 ⟨rfl, hr, hg⟩; have HR := Lib.hid (hr w.heap.size (Nat.le_trans HGA.out.size HGB.out.size)); have HG0 := Lib.hid hg; clear hr hg)
    | (go_at_call 18; (with_reducible refine (CN.out w).mono ?_); rintro e w2 ⟨da, Da, rfl, hl, hd1, hd2, hg⟩; have HLA := Lib.hid hl; have HDA := Lib.hid (And.intro hd1 hd2); have HGA := Lib.hid hg; clear hl hd1 hd2 hg)
    | (go_at_call 18; (with_reducible refine (CN.out w2).mono ?_); rintro e w3 ⟨db, Db, rfl, hl, hd1, hd2, hg⟩; have HLB := Lib.hid hl; have HDB := Lib.hid (And.intro hd1 hd2); have HGB := Lib.hid hg; clear hl hd1 hd2 hg))
  have hla := HLA.out.lt
  have hlb := HLB.out.lt
  have hda := HDA.out
  have hdb := HDB.out
  have hsa := HGA.out.size
  have hsb := HGB.out.size
  have HAP : Hid (Apart w w.heap.size w3.heap.size da Da db Db) := ⟨
    fun k x y => by rcases x with x | x <;> rcases y with y | y <;> omega,
    fun k x => by rcases x with x | x <;> omega,
    fun k x => by rcases x with x | x <;> omega,
    fun k x => by rcases x with x | x <;> omega,
    fun k x => by rcases x with x | x <;> omega,
    by omega, Nat.le_refl _⟩
  have HT0 : Hid (Tri w w.heap.size w3.heap.size da Da db Db [] [] [] w4) := ⟨(HLA.out.grow HGB.out).grow HG0.out, HLB.out.grow HG0.out, HR.out, (HGA.out.trans HGB.out).trans HG0.out⟩
  clear hla hlb hda hdb hsa hsb HLA HLB HDA HDB HGA HGB HR HG0 CN
  generalize w3.heap.size = d at HAP HT0 ⊢
  generalize hB : w.heap.size = B at HAP HT0
  go_loopg [6] 20 (ALoop w B d da Da db Db)
  case atStart => exact ⟨0, by omega, rfl, HT0.out⟩
  case round =>
    obtain ⟨j, hg, rfl, ht⟩ := hrel
    have HG := Lib.hid hg
    have HT := Lib.hid ht
    clear hg ht HT0
    by_cases hj : j < 20
    · have hjz : (j : Int) < 20 := by omega
      obtain ⟨h1, h2⟩ := back_range hj
      have CA := Lib.hid (back_any HT.out.a (j : Int))
      have CB : Hid (∀ wx, ListAt wx db Db 20 (List.range j) → Calls Try.prog 19 #[.pointer (some ⟨db, 0, none⟩), .int .i64 (j : Int)] wx (ListPost db Db 20 wx (.bool true) (List.range (j + 1)))) := fun wx h => by
        have := back_any h (j : Int)
        rwa [h1, h2] at this
      rw [h1, h2] at CA
      clear h1 h2
      go_wp2_with (first
        | (go_at_call 19; (with_reducible refine CA.out.mono ?_); rintro e w5 ⟨rfl, hl, hk, _⟩; have HT5 := Lib.hid (HT.out.opA HAP.out hl hk); clear hl hk)
        | (go_at_call 19; (with_reducible refine (CB.out _ HT5.out.b).mono ?_); rintro e w6 ⟨rfl, hl, hk, _⟩; have HT6 := Lib.hid (HT5.out.opB HAP.out hl hk); clear hl hk))
      go_roundg (20 - (j + 1))
      case measure => have := HG.out; omega
      case rel => exact ⟨j + 1, by have := HG.out; omega, by go_num, HT6.out⟩
    · obtain rfl : j = 20 := by have := HG.out; omega
      have H1 : Hid (BLoop w B d da Da db Db M M (.int .i64 0) wr) := ⟨0, _, _, [], by omega, rfl, HT.out, by simp, rfl, fun x hx => by simpa using hx⟩
      clear HT hj
      go_wp2_with (fail)
      go_loopg [7] M (BLoop w B d da Da db Db M)
      case atStart => exact H1.out
      case round =>
        obtain ⟨j, za, zb, rs, hg, rfl, ht, hl7, hap, hfull⟩ := hrel
        have HG := Lib.hid hg
        have HT := Lib.hid ht
        have HL7 := Lib.hid hl7
        have HLK := Lib.hid hap
        have HFU := Lib.hid hfull
        clear hg ht hl7 hap hfull H1
        by_cases hj : j < M
        · have hjz : (j : Int) < (len0 : Int) := by omega
          have hj7 : (j : Int) < 100 := by omega
          obtain ⟨K, hmK, hK⟩ := tmod_nat (zs.getD j 0) 20 (by omega)
          simp only [Int.cast_ofNat_Int] at hmK
          obtain ⟨b, o, rfl, hb, hc⟩ := HS.out.at_ (by omega)
          have r1 := HT.out.g.cellN (hc j (by omega)) id
          have hKz : (K : Int) < 20 := by omega
          obtain ⟨hf1, hf2⟩ := mv_full HFU.out hK
          have HFU2 := Lib.hid (hf2 HT.out.b.ring.1)
          have HSW := Lib.hid (said_wait rs hK)
          have CO : Hid (Calls Try.prog 24 #[.pointer (some ⟨db, 0, none⟩), .int .i64 (K : Int)] wr fun e w' => e = .returned (.bool true) ∧ ListAt w' db Db 20 (outL zb (K : Int)) ∧ Kept (Own db Db) wr w') := by
            have := out_any HT.out.b (K : Int)
            rwa [HFU.out.ok hK] at this
          have CF : Hid (∀ wx, ListAt wx db Db 20 (outL zb (K : Int)) → Calls Try.prog 25 #[.pointer (some ⟨db, 0, none⟩), .int .i64 (K : Int)] wx (ListPost db Db 20 wx (.bool (okF 20 (outL zb (K : Int)) (K : Int))) (mv 20 zb (K : Int)))) := fun wx h => by
            have := front_any h (K : Int)
            rwa [hf1] at this
          have CT : Hid (∀ wx, RingAt wx B d rs → Calls Try.prog 9 #[.pointer (some ⟨d, 0, none⟩), .int .i64 (K : Int)] wx (APost B d wx (toldBy rs (K : Int)) (waitBy rs (K : Int)))) := fun wx h => t_touch h _ HL7.out rfl rfl
          have HWL := Lib.hid (wait_len HL7.out (K : Int))
          have HTL := Lib.hid (told_len rs (K : Int) HL7.out)
          clear hf1 hf2 hb hc hK
          generalize zs.getD j 0 = x at *
          go_wp2_with (first
            | (go_at_call 24; (with_reducible refine CO.out.mono ?_); rintro e w5 ⟨rfl, hl, hk⟩; have HT5 := Lib.hid (HT.out.opB HAP.out hl hk); clear hl hk)
            | (go_at_call 25; (with_reducible refine (CF.out _ HT5.out.b).mono ?_); rintro e w6 ⟨rfl, hl, hk, _⟩; have HT6 := Lib.hid (HT5.out.opB HAP.out hl hk); clear hl hk)
            | (go_at_call 9; (with_reducible refine (CT.out _ HT6.out.r).mono ?_); rintro e w7 ⟨A2, c2, rfl, hs, hn, hr, hk⟩; have HT7 := Lib.hid (HT6.out.opR HAP.out hr hk); have HS7 := Lib.hid hs; have HN7 := Lib.hid (fun x (hx : A2 = some x) (ho : Own da Da x.block) => (by have h1 := hn x hx; have h2 := HT6.out.a.lt; rcases ho with h | h <;> omega : False)); clear hs hn hr hk)
            | (go_at_call 21; (with_reducible refine (gapply_any HT7.out.a c2 HS7.out (fun _ => HN7.out) (Nat.le_trans HTL.out (by omega))).mono ?_); rintro e w8 ⟨rfl, hl, hk⟩; have HT8 := Lib.hid (HT7.out.opA HAP.out hl hk); clear hl hk))
          go_roundg (M - (j + 1))
          case measure => have := HG.out; omega
          case rel => exact ⟨j + 1, _, _, _, by have := HG.out; omega, by go_num, HT8.out, HWL.out, by rw [← applyL_app, HSW.out, applyL_snoc, HLK.out], HFU2.out⟩
        · obtain rfl : j = M := by have := HG.out; omega
          have h7 : ((j : Int) < (len0 : Int) ∧ 100 ≤ (j : Int)) ∨ (len0 : Int) ≤ (j : Int) := by
            rcases HMM.out with e | e <;> omega
          have CD := Lib.hid (gdrain_any HT.out.r)
          have hzl : zb.length ≤ 20 := HT.out.b.ring.2.2
          have HZL := Lib.hid hzl
          clear hzl hj
          rcases h7 with ⟨h7a, h7b⟩ | h7
          all_goals
            go_wp2_with (first
              | (go_at_call 11; (with_reducible refine CD.out.mono ?_); rintro e w7 ⟨A2, c2, rfl, hs, hn, hr, hk⟩; have HT7 := Lib.hid (HT.out.opR HAP.out hr hk); have HS7 := Lib.hid hs; have HN7 := Lib.hid (fun x (hx : A2 = some x) (ho : Own da Da x.block) => (by have h1 := hn x hx; have h2 := HT.out.a.lt; rcases ho with h | h <;> omega : False)); clear hs hn hr hk)
              | (go_at_call 21; (with_reducible refine (gapply_any HT7.out.a c2 HS7.out (fun _ => HN7.out) (Nat.le_trans HL7.out (by omega))).mono ?_); rintro e w8 ⟨rfl, hl, hk⟩; have HT8 : Hid (Tri w B d da Da db Db zb zb [] w8) := (by have := HT7.out.opA HAP.out hl hk; rwa [HLK.out] at this); clear hl hk)
              | (go_at_call 12; (with_reducible refine (told_any _).mono ?_); rintro e w9 ⟨rfl, hge⟩; have HT9 := Lib.hid (HT8.out.grow hge); clear hge)
              | (go_at_call 23; (with_reducible refine (all_any HT9.out.a).mono ?_); rintro e w10 ⟨A3, c3, rfl, hs, _, hk⟩; have HT10 := Lib.hid (HT9.out.grow hk); have HS10 := Lib.hid hs; clear hs hk)
              | (go_at_call 23; (with_reducible refine (all_any HT10.out.b).mono ?_); rintro e w11 ⟨A4, c4, rfl, hs, _, hk⟩; have HT11 := Lib.hid (HT10.out.grow hk); have HS11 := Lib.hid hs; have HS12 := Lib.hid (Sl.kept HS10.out hk (Nat.le_refl _) (fun _ _ x => x)); clear hs hk)
              | (go_at_call 13; (with_reducible refine (ints_true A3 A4 zb.length c3 c4 _ _ _ (Nat.le_trans HZL.out (by omega)) HS12.out HS11.out).mono ?_); rintro e w12 ⟨rfl, hk⟩; have HK12 := Lib.hid hk; clear hk))
            go_ret
            exact ⟨rfl, Grow.below (HT11.out.g.trans HK12.out)⟩

/-! ### THE ROW's STEP: WRITTEN OUT: LEAVE IT -/
set_option maxRecDepth 100000 in
theorem lifted (os : Os) (started : os.Started) (H : Type) (enc : TypeId × Value → H) :
    ReturnsInHanded {} Try.checked os 6 .any (Rows.ringSameSpec.pre6 enc Try.prog Try.f6 Rows.ringSameRow.domain false) (Rows.ringSameSpec.post enc Try.prog Try.f6 false true false false) := by
  refine returnsInHanded_of_change (C := Try.checked) own started (by kernel_rfl) Try.func6
    (ChangeSpec.witness6 (enc := enc) (C := Try.checked) false ⟨#[], #[.slice none 0 0], []⟩ 8 (by kernel_rfl) (by kernel_rfl) (by kernel_rfl) (by kernel_rfl)) ?_
  intro W base args ds gs before hval0 hW hcnd _
  have hval : ∀ (j : Nat) t v, Try.f6.params[j]? = some t → args[j]? = some v → Value.okWide Try.prog W .any base t v := hval0
  have hW' := hW
  obtain ⟨p, q, hA0, hV, rfl, hfz, hnd⟩ := hW
  have hA : DataW.TrodAll enc Try.prog W 0 (fun _ => true) true Try.f6.params.toList args.toList ds p := hA0
  rw [Try.params6] at hA hval
  obtain ⟨v0, vs0, d0, ds0, p0, q0, hargs, rfl, rfl, h0, r0⟩ := trodAll_cons hA
  obtain ⟨rfl, rfl, rfl⟩ := trodAll_nil r0
  obtain rfl : args = #[v0] := by cases args; simp_all
  obtain ⟨rfl, rfl⟩ := trodVars_none hV
  obtain ⟨a0, len0, cap0, rfl⟩ := okWide_slice Try.underlying22 (hval 0 22 v0 rfl rfl)
  have k0 := h0
  have lt0 : ∀ x ∈ p0, x.block < W.heap.size := by obtain ⟨m, hm⟩ := k0; exact DataW.trod_lt m _ _ _ hm
  obtain ⟨z0, w0⟩ : ∃ zs, IsRow .i64 W a0 len0 cap0 zs := by
    obtain ⟨fuel, hf⟩ := h0
    rcases open_ints Try.underlying22 Try.underlying3 (by kernel_rfl) hf with ⟨hcs, _⟩ | ⟨x, l, c, zs, hcs, _, hl, hm, hz, _, hcell, hwz⟩
    · simp [Value.cells] at hcs
      obtain ⟨rfl, rfl, rfl⟩ := hcs
      exact ⟨[], .inl ⟨rfl, rfl, rfl, rfl⟩⟩
    · simp [Value.cells] at hcs
      obtain ⟨rfl, rfl, rfl⟩ := hcs
      exact ⟨zs, .inr ⟨_, rfl, hl, hm, by simpa using hz, hcell, hwz⟩⟩
  clear hA0 hval0
  refine (walk a0 len0 cap0 z0 W w0).mono fun e W' ⟨he, bel⟩ => ?_
  subst he
  exact ⟨_, rfl, _, _, _, [], _, [], hW', trodAll_mk1 (shut_bool Try.underlying4 _), (trodAll_cons_mk (Below.trod laidOut (by kernel_rfl) (of_decide_eq_true (by kernel_rfl)) k0 bel lt0) trodAll_mk0), rfl, bel.frame _, fun h => by cases h⟩

theorem over : Rows.ringSameRow.holds Try.pinned (OpenSpec.ofChange Rows.ringSameSpec) :=
  OpenClaim.holds_of_wide 6 Try.f6 rfl rfl rfl rfl rfl rfl rfl ⟨rfl, rfl, rfl, rfl, rfl⟩ rfl rfl rfl rfl rfl (by kernel_rfl) Try.func6 (by kernel_rfl)
    (of_decide_eq_true (by kernel_rfl)) (by unfold Func.isWrapper; first | (rw [if_pos (by decide +kernel)]; kernel_rfl) | (rw [if_neg (by decide +kernel)]; exact ⟨rfl, rfl⟩))
    (fun os started H enc _ => lifted os started H enc)

/-- ████ THE STATEMENT ████ -/
theorem proved : Rows.RingSameSaid := over
#print axioms proved
end Go.Proofs.Ytodmjclkfadooaa.ringSame

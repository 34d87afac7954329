/-
  For every input the call of lavabolaw4.ListWalks returns true and leaves its arguments as they were; no condition.
-/
import Derived.Test.YtkcfgmonpbgkgaaTold4
import Derived.Test.YtkcfgmonpbgkgaaListOps
import Derived.Test.YtkcfgmonpbgkgaaRows
import Derived.WalkKit
import Derived.ProofKit
import Derived.OpenShut
import Derived.ShutString
import Derived.ChangeOld
import Derived.Below
namespace Go.Proofs.Ytkcfgmonpbgkgaa.listWalks
open Go.ChangeShapes Go.WideShapes Go.ChangeAt Go.RowKit
open Go.ChangeMaps (open_string shut_string)
open Go.Proofs.Ytkcfgmonpbgkgaa.Mem Go.Proofs.Ytkcfgmonpbgkgaa.Blk Go.Proofs.Ytkcfgmonpbgkgaa.ListM Go.Proofs.Ytkcfgmonpbgkgaa.Rowed Go.Proofs.Ytkcfgmonpbgkgaa.ListC Go.Proofs.Ytkcfgmonpbgkgaa.ListD Go.Proofs.Ytkcfgmonpbgkgaa.Told4 Go.Proofs.Ytkcfgmonpbgkgaa.Ops Go.Proofs.Ytkcfgmonpbgkgaa.Stages
set_option linter.unusedVariables false

theorem own : ownKnob Try.prog.godebug = none := by kernel_rfl
theorem laidOut : laidOutB Try.prog = true := by kernel_rfl

/-- WHAT THE WALK IS TOLD OF A SLICE OF INTEGERS THAT CAME IN: it is nil; or it leads to a row of 'cap' cells, the numbers 'zs' (the first 'len' are its elements, the rest its spare room), each fitting its kind. -/
def IsRow (k : IntKind) (w : World) (a : Option Addr) (len cap : Nat) (zs : List Int) : Prop :=
  (a = none ∧ len = 0 ∧ cap = 0 ∧ zs = []) ∨
  ∃ x, a = some x ∧ len ≤ cap ∧ cap ≤ maxLen ∧ zs.length = cap ∧ (∀ i, i < zs.length → w.cell? (x.add i) = some (.int k (zs.getD i 0))) ∧ ∀ n ∈ zs, (Lit.int k n).wf = true

def WMid (w1 : World) (d D : Nat) (wx : World) : Prop := ∃ zs, ListAt wx d D 40 zs ∧ Kept (Own d D) w1 wx
def WLoop (w1 : World) (d D M : Nat) (g : Nat) (i : Value) (wx : World) : Prop := ∃ j : Nat, j + g = M ∧ i = .int .i64 (j : Int) ∧ WMid w1 d D wx
def WPost (w1 : World) (d D : Nat) (e : Ending) (w' : World) : Prop := ∃ b, e = .returned (.bool b) ∧ WMid w1 d D w'
def kOf (zs : List Nat) (j : Nat) : Int := if j < zs.length then ((zs.getD j 0 : Nat) : Int) else -1
def lastOf (zs : List Nat) (j : Nat) : Int := if j = 0 then -1 else ((zs.getD (j - 1) 0 : Nat) : Int)
theorem first_k (zs : List Nat) : first zs = kOf zs 0 := by
  cases zs with
  | nil => rfl
  | cons x l => rfl
theorem next_k {zs : List Nat} (hn : zs.Nodup) {j : Nat} (hj : j < zs.length) : nxtI zs ((zs.getD j 0 : Nat) : Int) = kOf zs (j + 1) := by
  have hm : zs.getD j 0 = zs[j] := by rw [List.getD_eq_getElem?_getD, List.getElem?_eq_getElem hj]; rfl
  unfold nxtI nxt kOf
  rw [if_pos (by omega), Int.toNat_natCast, hm, hn.idxOf_getElem]
theorem last_k (zs : List Nat) : last zs = lastOf zs zs.length := by
  rcases List.eq_nil_or_concat zs with rfl | ⟨l, x, rfl⟩
  · rfl
  · rw [List.concat_eq_append]
    unfold last lastOf
    rw [if_neg (by simp), List.getLast?_append]
    simp [List.getD_eq_getElem?_getD]
/-- Of a walk over the list: who has been met. -/
def Met (w3 : World) (gS : Nat) (zs : List Nat) (g : Nat) (n l k : Value) (wx : World) : Prop :=
  ∃ j : Nat, j + g = zs.length ∧ n = .int .i64 (j : Int) ∧ l = .int .i64 (lastOf zs j) ∧ k = .int .i64 (kOf zs j) ∧ Row wx gS 40 (fun q => .bool (decide (q ∈ zs.take j))) ∧ Kept (· = gS) w3 wx
theorem row_none (w : World) (t : TypeId) : Row (w.alloc (.cells #[Value.bool false, Value.bool false, Value.bool false, Value.bool false, Value.bool false, Value.bool false, Value.bool false, Value.bool false, Value.bool false, Value.bool false, Value.bool false, Value.bool false, Value.bool false, Value.bool false, Value.bool false, Value.bool false, Value.bool false, Value.bool false, Value.bool false, Value.bool false, Value.bool false, Value.bool false, Value.bool false, Value.bool false, Value.bool false, Value.bool false, Value.bool false, Value.bool false, Value.bool false, Value.bool false, Value.bool false, Value.bool false, Value.bool false, Value.bool false, Value.bool false, Value.bool false, Value.bool false, Value.bool false, Value.bool false, Value.bool false] t)) w.heap.size 40 (fun _ => .bool false) := by
  refine Row.of_blk (Blk.new w t (List.replicate 40 (.bool false))) rfl fun i hi => ?_
  rw [List.getElem?_replicate, if_pos hi]
theorem met_next {zs : List Nat} (hn : zs.Nodup) {j : Nat} (hj : j < zs.length) : zs.getD j 0 ∉ zs.take j ∧ ∀ q, decide (q ∈ zs.take (j + 1)) = if q = zs.getD j 0 then true else decide (q ∈ zs.take j) := by
  have hm : zs.getD j 0 = zs[j] := by rw [List.getD_eq_getElem?_getD, List.getElem?_eq_getElem hj]; rfl
  rw [hm]
  refine ⟨fun h => ?_, fun q => ?_⟩
  · obtain ⟨i, hi, e⟩ := List.getElem_of_mem h
    rw [List.length_take] at hi
    rw [List.getElem_take] at e
    have h1 := hn.idxOf_getElem i (by omega)
    have h2 := hn.idxOf_getElem j hj
    rw [e, h2] at h1
    omega
  · have ht : zs.take (j + 1) = zs.take j ++ [zs[j]] := by rw [List.take_add_one, List.getElem?_eq_getElem hj]; rfl
    have hiff : q ∈ zs.take (j + 1) ↔ q ∈ zs.take j ∨ q = zs[j] := by rw [ht, List.mem_append, List.mem_singleton]
    by_cases e : q = zs[j]
    · rw [if_pos e]; exact decide_eq_true (hiff.2 (.inr e))
    · rw [if_neg e]
      by_cases h : q ∈ zs.take j
      · rw [decide_eq_true h, decide_eq_true (hiff.2 (.inl h))]
      · rw [decide_eq_false h, decide_eq_false fun h' => (hiff.1 h').elim h e]

/-! ### STEP 1: THE WALK: the Go text returns true, AND WRITES NOTHING THAT WAS THERE: 'Below w.heap.size w w'' (Derived/Below.lean: '.refl', '.alloc', '.drew', '.setCell' at a new block, '.trans'). Open each 'IsRow' by 'rcases' AHEAD of 'go_enter'; part every test ahead of the walk. -/
set_option maxHeartbeats 4000000 in
set_option maxRecDepth 100000 in
theorem walk (a0 : Option Addr) (len0 cap0 : Nat) (w : World) (w0 : OpsAt w a0 len0 cap0) :
    Calls Try.prog 4 #[.slice a0 len0 cap0] w fun e w' => e = .returned (.bool true) ∧ Below w.heap.size w w' := by
  obtain ⟨hlc, hcm, hops⟩ := w0
  unfold maxLen at hcm
  have HOPS := Lib.hid hops
  have CN := Lib.hid fun (wx : World) => new_good (w := wx) 40 (by omega)
  simp only [Int.cast_ofNat_Int] at CN
  obtain ⟨M, hM⟩ : ∃ M : Nat, M = min len0 100 := ⟨_, rfl⟩
  have HM := Lib.hid hM
  clear hops hM
  go_enter Try.func4, Try.ntmps4
  go_upto_block 0 with (go_at_call 7; (with_reducible refine (CN.out _).mono ?_); rintro e w1 ⟨d, D, rfl, hl, hd1, hd2, hg⟩; have H0 := Lib.hid hl; have HD := Lib.hid (And.intro hd1 hd2); have G0 := Lib.hid hg; clear hl hd1 hd2 hg)
  have HOLDW : Hid (∀ k, k < w.heap.size → ¬ Own d D k) := fun k hk h => by
    have h1 := HD.out.1
    have h2 := HD.out.2
    rcases h with h | h <;> omega
  go_cut [4] from 14 (fun _ wx => WMid w1 d D wx)
  case first =>
    go_wp2_with (fail)
    go_loopg [4] M (WLoop w1 d D M)
    case atStart => exact ⟨0, by omega, rfl, [], H0.out, Kept.refl _ _⟩
    case round =>
      obtain ⟨j, hg, rfl, zs, hl, hk⟩ := hrel
      have HG := Lib.hid hg
      have HL := Lib.hid hl
      have HK := Lib.hid hk
      clear hg hl hk
      by_cases hj : j < M
      · have hj1 : j < len0 := by have := HM.out; omega
        have hj2 : (j : Int) < 100 := by have := HM.out; omega
        have hj1z : (j : Int) < (len0 : Int) := by omega
        obtain ⟨ab, ao, rfl, hab, hall⟩ := HOPS.out (by omega)
        obtain ⟨x, hx⟩ := hall j hj1
        have hkx : ∀ o v, w.cell? ⟨ab, o, none⟩ = some v → wr.cell? ⟨ab, o, none⟩ = some v := fun o v h => HK.out.cellN (G0.out.cellN h id) (HOLDW.out ab hab)
        have ck := hkx _ _ hx.k
        have cp := hkx _ _ hx.p
        have kB := hx.kB
        have pB := hx.pB
        clear hall hx hkx
        obtain ⟨p, hp, hp40⟩ := tmod_nat x.p 40 (by omega)
        simp only [Int.cast_ofNat_Int] at hp
        have hpz : (p : Int) < 40 := by omega
        have CF : Hid (Calls Try.prog 9 #[.pointer (some ⟨d, 0, none⟩), .int .i64 (p : Int)] wr (WPost w1 d D)) := (front_any HL.out (p : Int)).mono fun e w' ⟨h1, h2, h3, _⟩ => ⟨_, h1, _, h2, HK.out.trans h3⟩
        have CB : Hid (Calls Try.prog 11 #[.pointer (some ⟨d, 0, none⟩), .int .i64 (p : Int)] wr (WPost w1 d D)) := (back_any HL.out (p : Int)).mono fun e w' ⟨h1, h2, h3, _⟩ => ⟨_, h1, _, h2, HK.out.trans h3⟩
        have CO : Hid (Calls Try.prog 13 #[.pointer (some ⟨d, 0, none⟩), .int .i64 (p : Int)] wr (WPost w1 d D)) := (out_any HL.out (p : Int)).mono fun e w' ⟨h1, h2, h3⟩ => ⟨_, h1, _, h2, HK.out.trans h3⟩
        clear hp40
        go_wp2_with (first
          | (go_at_call 9; (with_reducible refine CF.out.mono ?_); rintro e w2 ⟨b, rfl, hm⟩; have HMI := Lib.hid hm; clear hm)
          | (go_at_call 11; (with_reducible refine CB.out.mono ?_); rintro e w2 ⟨b, rfl, hm⟩; have HMI := Lib.hid hm; clear hm)
          | (go_at_call 13; (with_reducible refine CO.out.mono ?_); rintro e w2 ⟨b, rfl, hm⟩; have HMI := Lib.hid hm; clear hm))
        all_goals
          go_roundg (M - (j + 1))
          case measure => have := HG.out; omega
          case rel => exact ⟨j + 1, by have := HG.out; omega, by go_num, HMI.out⟩
      · have hjM : j = M := by have := HG.out; omega
        have HM' : Hid (j = min len0 100) := by have := HM.out; show _ = _; omega
        have HF : Hid (WMid w1 d D wr) := ⟨zs, HL.out, HK.out⟩
        clear hjM hj HOPS
        by_cases h100 : len0 ≤ 100
        · have hlz : (len0 : Int) ≤ 100 := by omega
          obtain rfl : len0 = j := by have := HM'.out; omega
          go_wp2_with (fail)
          go_meet
          exact HF.out
        · obtain rfl : j = 100 := by have := HM'.out; omega
          simp only [Int.cast_ofNat_Int]
          have hlz : (100 : Int) < (len0 : Int) := by omega
          go_wp2_with (fail)
          go_meet
          exact HF.out
  case rest =>
    obtain ⟨zs, hl, hk⟩ := hcut
    have HL := Lib.hid hl
    have HK := Lib.hid hk
    clear hl hk HOPS HM H0
    have hga : Grow wc (wc.alloc (.cells #[Value.bool false, Value.bool false, Value.bool false, Value.bool false, Value.bool false, Value.bool false, Value.bool false, Value.bool false, Value.bool false, Value.bool false, Value.bool false, Value.bool false, Value.bool false, Value.bool false, Value.bool false, Value.bool false, Value.bool false, Value.bool false, Value.bool false, Value.bool false, Value.bool false, Value.bool false, Value.bool false, Value.bool false, Value.bool false, Value.bool false, Value.bool false, Value.bool false, Value.bool false, Value.bool false, Value.bool false, Value.bool false, Value.bool false, Value.bool false, Value.bool false, Value.bool false, Value.bool false, Value.bool false, Value.bool false, Value.bool false] 39)) := (Kept.refl _ _).alloc _
    have hrow := row_none wc 39
    have hla := HL.out.grow hga
    have HNG : Hid (¬ Own d D wc.heap.size) := fun h => by
      have := HL.out.lt
      rcases h with h | h <;> omega
    have HKG : Hid (Kept (Own d D) w1 (wc.alloc (.cells #[Value.bool false, Value.bool false, Value.bool false, Value.bool false, Value.bool false, Value.bool false, Value.bool false, Value.bool false, Value.bool false, Value.bool false, Value.bool false, Value.bool false, Value.bool false, Value.bool false, Value.bool false, Value.bool false, Value.bool false, Value.bool false, Value.bool false, Value.bool false, Value.bool false, Value.bool false, Value.bool false, Value.bool false, Value.bool false, Value.bool false, Value.bool false, Value.bool false, Value.bool false, Value.bool false, Value.bool false, Value.bool false, Value.bool false, Value.bool false, Value.bool false, Value.bool false, Value.bool false, Value.bool false, Value.bool false, Value.bool false] 39))) := HK.out.trans (Grow.kept hga)
    have HOLDG : Hid (w.heap.size ≤ wc.heap.size) := Nat.le_trans G0.out.size HK.out.size
    have HROW := Lib.hid hrow
    have HLA := Lib.hid hla
    clear hga hrow hla HL HK
    go_upto_region 15 with (fail)
    generalize wc.alloc (.cells #[Value.bool false, Value.bool false, Value.bool false, Value.bool false, Value.bool false, Value.bool false, Value.bool false, Value.bool false, Value.bool false, Value.bool false, Value.bool false, Value.bool false, Value.bool false, Value.bool false, Value.bool false, Value.bool false, Value.bool false, Value.bool false, Value.bool false, Value.bool false, Value.bool false, Value.bool false, Value.bool false, Value.bool false, Value.bool false, Value.bool false, Value.bool false, Value.bool false, Value.bool false, Value.bool false, Value.bool false, Value.bool false, Value.bool false, Value.bool false, Value.bool false, Value.bool false, Value.bool false, Value.bool false, Value.bool false, Value.bool false] 39) = w3 at HROW HLA HKG ⊢
    generalize wc.heap.size = gS at HROW HNG HOLDG ⊢
    have C1 : Hid (Calls Try.prog 16 #[.pointer (some ⟨d, 0, none⟩)] w3 fun e w' => e = .returned (.int .i64 (kOf zs 0)) ∧ w3 = w') := by
      have := first_any HLA.out
      rwa [first_k] at this
    go_upto_block 3 with (go_at_call 16; (with_reducible refine C1.out.mono ?_); rintro e w' ⟨rfl, rfl⟩)
    go_wp2_with (fail)
    have HR3 := Lib.hid HLA.out.ring
    go_loopg [7, 8, 9] zs.length (Met w3 gS zs)
    case atStart => exact ⟨0, by omega, rfl, rfl, rfl, HROW.out.congr fun q _ => by simp, Kept.refl _ _⟩
    case round =>
      obtain ⟨j, hg, rfl, rfl, rfl, hrow, hk⟩ := hrel
      have HG := Lib.hid hg
      have HRW := Lib.hid hrow
      have HKW := Lib.hid hk
      have hdev := HLA.out.kept hk (fun k e h => HNG.out (e ▸ h))
      have HLW := Lib.hid hdev
      have hl40 : zs.length ≤ 40 := HR3.out.2.2
      have hjl : j ≤ zs.length := by omega
      have hj40 : (j : Int) ≤ 40 := by omega
      clear hg hrow hk hdev
      by_cases hj : j < zs.length
      · obtain ⟨hno, hnx⟩ := met_next HR3.out.1 hj
        have hmem : zs.getD j 0 ∈ zs := by
          have hm : zs.getD j 0 = zs[j] := by rw [List.getD_eq_getElem?_getD, List.getElem?_eq_getElem hj]; rfl
          rw [hm]
          exact List.getElem_mem hj
        have hx40 := HR3.out.2.1 _ hmem
        have hk1 : kOf zs j = ((zs.getD j 0 : Nat) : Int) := by unfold kOf; rw [if_pos hj]
        have hl1 : lastOf zs (j + 1) = ((zs.getD j 0 : Nat) : Int) := by unfold lastOf; rw [if_neg (by omega)]; rfl
        have hk2 := next_k HR3.out.1 hj
        have hcell := HRW.out.cell (i := zs.getD j 0) hx40
        rw [decide_eq_false hno] at hcell
        have hfr := HRW.out.frozen (zs.getD j 0)
        have hok : okO zs ((zs.getD j 0 : Nat) : Int) = true := by unfold okO; rw [Int.toNat_natCast, decide_eq_true hmem, decide_eq_true (by omega)]; rfl
        have HNX := Lib.hid hnx
        have HL1 := Lib.hid hl1
        rw [hk1]
        generalize zs.getD j 0 = x at *
        have CH : Hid (∀ wx, ListAt wx d D 40 zs → Calls Try.prog 22 #[.pointer (some ⟨d, 0, none⟩), .int .i64 (x : Int)] wx fun e w' => e = .returned (.bool true) ∧ wx = w') := fun wx h => by
          have := has_any h (x : Int)
          rwa [hok] at this
        have CX : Hid (∀ wx, ListAt wx d D 40 zs → Calls Try.prog 20 #[.pointer (some ⟨d, 0, none⟩), .int .i64 (x : Int)] wx fun e w' => e = .returned (.int .i64 (kOf zs (j + 1))) ∧ wx = w') := fun wx h => by
          have := next_any h (x : Int)
          rwa [hk2] at this
        have HL2 : Hid (ListAt (wr.setCell ⟨gS, x, none⟩ (.bool true)) d D 40 zs) := HLW.out.kept (kept_set _ _ _ _) (fun k e h => HNG.out (e ▸ h))
        have HR2 : Hid (Row (wr.setCell ⟨gS, x, none⟩ (.bool true)) gS 40 (fun q => .bool (decide (q ∈ zs.take (j + 1))))) := (HRW.out.set x (.bool true)).congr fun q _ => by
          rw [HNX.out q]
          by_cases e : q = x
          · rw [if_pos e, if_pos e]
          · rw [if_neg e, if_neg e]
        have HK2 : Hid (Kept (· = gS) w3 (wr.setCell ⟨gS, x, none⟩ (.bool true))) := HKW.out.setCell (fun _ => rfl) _
        have hxz : (x : Int) < 40 := by omega
        have HJ := Lib.hid hj
        clear hno hnx hmem hk1 hl1 hk2 hok hl40 hjl hx40 hj
        go_wp2_with (first
          | (go_at_call 22; (with_reducible refine (CH.out _ HLW.out).mono ?_); rintro e w' ⟨rfl, rfl⟩)
          | (go_at_call 20; (with_reducible refine (CX.out _ HL2.out).mono ?_); rintro e w' ⟨rfl, rfl⟩))
        go_roundg (gk - 1)
        case measure => have := HG.out; have := HJ.out; omega
        case rel => exact ⟨j + 1, by have := HG.out; have := HJ.out; omega, by go_num, by rw [HL1.out], rfl, HR2.out, HK2.out⟩
      · obtain rfl : j = zs.length := by omega
        have hk1 : kOf zs zs.length = -1 := by unfold kOf; rw [if_neg (by omega)]
        rw [hk1]
        clear hk1 hj hl40 hjl
        go_wp2_with (fail)
        have HROW2 : Hid (Row wr gS 40 (fun q => .bool (decide (q ∈ zs)))) := HRW.out.congr fun q _ => by rw [List.take_length]
        have HB : Hid (Below w.heap.size w wr) := by
          refine Kept.below (F := fun k => Own d D k ∨ k = gS) ((Grow.kept G0.out).trans ((HKG.out.mono fun k _ h => .inl h).trans (HKW.out.mono fun k _ h => .inr h))) (fun k ho => ?_) (Nat.le_refl _)
          have h1 := HD.out.1
          have h2 := HD.out.2
          have h3 := HOLDG.out
          rcases ho with (h | h) | h <;> omega
        have HLAST := Lib.hid (last_k zs)
        have hl40 : zs.length ≤ 40 := HR3.out.2.2
        clear HRW HKW HROW HLA HKG hcm hlc
        generalize wr = w4 at *
        go_loopg [10] 40 (fun g i wx => ∃ q : Nat, q + g = 40 ∧ i = .int .i64 (q : Int) ∧ Grow w4 wx)
        case atStart => exact ⟨0, by omega, rfl, Kept.refl _ _⟩
        case round =>
          obtain ⟨q, hgq, rfl, hgr⟩ := hrel
          have HGQ := Lib.hid hgq
          have HGR := Lib.hid hgr
          clear hgq hgr
          have HLX := Lib.hid (HLW.out.grow HGR.out)
          by_cases hq : q < 40
          · have hqz : (q : Int) < 40 := by omega
            have hcell := (HROW2.out.kept HGR.out id).cell (i := q) hq
            have CH : Hid (∀ wx, ListAt wx d D 40 zs → Calls Try.prog 22 #[.pointer (some ⟨d, 0, none⟩), .int .i64 (q : Int)] wx fun e w' => e = .returned (.bool (decide (q ∈ zs))) ∧ wx = w') := fun wx h => by
              have := has_any h (q : Int)
              rwa [show okO zs (q : Int) = decide (q ∈ zs) by unfold okO; rw [Int.toNat_natCast, decide_eq_true (by omega)]; rfl] at this
            have HQ := Lib.hid hq
            clear hq
            generalize decide (q ∈ zs) = bb at *
            have hbb : (bb != bb) = false := by simp
            have u0 := up_cell (F := fun _ => False) (w := wr.drew) hcell id
            go_upto_region 27 with (fail)
            refine wp_region_stages Grow (kept_refl _) (kept_trans _) [([0, 1, 3, 4, 5], 2)] [6] (by kernel_rfl) (by kernel_rfl) ?_
            simp only [selSt, sel, List.map_cons, List.map_nil, List.getD_cons_succ, List.getD_cons_zero]
            refine st_cons fun K1 hK1 => ?_
            repeat (go_big_quiet_step (fail))
            refine wpQuiet_nil ?_
            clear u0
            go_wp2_with (go_at_call 22; (with_reducible refine (CH.out _ (HLX.out.grow (Kept.drew' _))).mono ?_); rintro e w' ⟨rfl, rfl⟩)
            refine norm_up (hK1 _ _ (kept_refl _ _) (st_nil fun K2 hK2 => ?_))
            clear hK1 K1
            repeat (go_big_quiet_step (fail))
            refine wpQuiet_nil (hK2 _ ?_)
            clear hK2 K2
            go_wp2
            go_roundg (40 - (q + 1))
            case measure => have := HGQ.out; have := HQ.out; omega
            case rel => exact ⟨q + 1, by have := HQ.out; omega, by go_num, HGR.out.drew⟩
          · have hqz : (40 : Int) ≤ (q : Int) := by omega
            have CL : Hid (∀ wx, ListAt wx d D 40 zs → Calls Try.prog 18 #[.pointer (some ⟨d, 0, none⟩)] wx fun e w' => e = .returned (.int .i64 (lastOf zs zs.length)) ∧ wx = w') := fun wx h => by
              have := last_any h
              rwa [HLAST.out] at this
            clear hq
            go_wp2_with (first
              | (go_at_call 8; (with_reducible refine (told_any _).mono ?_); rintro e w5 ⟨rfl, hge⟩; have HGE := Lib.hid hge; clear hge)
              | (go_at_call 15; (with_reducible refine (len_any (HLX.out.grow HGE.out)).mono ?_); rintro e w' ⟨rfl, rfl⟩)
              | (go_at_call 18; (with_reducible refine (CL.out _ (HLX.out.grow HGE.out)).mono ?_); rintro e w' ⟨rfl, rfl⟩))
            go_ret
            exact ⟨rfl, HB.out.trans ((Grow.below (HGR.out.trans HGE.out)).mono HB.out.size)⟩

/-! ### THE ROW's STEP: WRITTEN OUT: LEAVE IT -/
set_option maxRecDepth 100000 in
theorem lifted (os : Os) (started : os.Started) (H : Type) (enc : TypeId × Value → H) :
    ReturnsInHanded {} Try.checked os 4 .any (Rows.listWalksSpec.pre6 enc Try.prog Try.f4 Rows.listWalksRow.domain false) (Rows.listWalksSpec.post enc Try.prog Try.f4 false true false false) := by
  refine returnsInHanded_of_change (C := Try.checked) own started (by kernel_rfl) Try.func4
    (ChangeSpec.witness6 (enc := enc) (C := Try.checked) false ⟨#[], #[.slice none 0 0], []⟩ 8 (by kernel_rfl) (by kernel_rfl) (by kernel_rfl) (by kernel_rfl)) ?_
  intro W base args ds gs before hval0 hW hcnd _
  have hval : ∀ (j : Nat) t v, Try.f4.params[j]? = some t → args[j]? = some v → Value.okWide Try.prog W .any base t v := hval0
  have hW' := hW
  obtain ⟨p, q, hA0, hV, rfl, hfz, hnd⟩ := hW
  have hA : DataW.TrodAll enc Try.prog W 0 (fun _ => true) true Try.f4.params.toList args.toList ds p := hA0
  rw [Try.params4] at hA hval
  obtain ⟨v0, vs0, d0, ds0, p0, q0, hargs, rfl, rfl, h0, r0⟩ := trodAll_cons hA
  obtain ⟨rfl, rfl, rfl⟩ := trodAll_nil r0
  obtain rfl : args = #[v0] := by cases args; simp_all
  obtain ⟨rfl, rfl⟩ := trodVars_none hV
  obtain ⟨a0, len0, cap0, rfl⟩ := okWide_slice Try.underlying22 (hval 0 22 v0 rfl rfl)
  have k0 := h0
  have lt0 : ∀ x ∈ p0, x.block < W.heap.size := by obtain ⟨m, hm⟩ := k0; exact DataW.trod_lt m _ _ _ hm
  have w0 : OpsAt W a0 len0 cap0 := by obtain ⟨fuel, hf⟩ := h0; exact ops_open hf
  clear hA0 hval0
  refine (walk a0 len0 cap0 W w0).mono fun e W' ⟨he, bel⟩ => ?_
  subst he
  exact ⟨_, rfl, _, _, _, [], _, [], hW', trodAll_mk1 (shut_bool Try.underlying4 _), (trodAll_cons_mk (Below.trod laidOut (by kernel_rfl) (of_decide_eq_true (by kernel_rfl)) k0 bel lt0) trodAll_mk0), rfl, bel.frame _, fun h => by cases h⟩

theorem over : Rows.listWalksRow.holds Try.pinned (OpenSpec.ofChange Rows.listWalksSpec) :=
  OpenClaim.holds_of_wide 4 Try.f4 rfl rfl rfl rfl rfl rfl rfl ⟨rfl, rfl, rfl, rfl, rfl⟩ rfl rfl rfl rfl rfl (by kernel_rfl) Try.func4 (by kernel_rfl)
    (of_decide_eq_true (by kernel_rfl)) (by unfold Func.isWrapper; first | (rw [if_pos (by decide +kernel)]; kernel_rfl) | (rw [if_neg (by decide +kernel)]; exact ⟨rfl, rfl⟩))
    (fun os started H enc _ => lifted os started H enc)

/-- ████ THE STATEMENT ████ -/
theorem proved : Rows.ListWalksSaid := over
#print axioms proved
end Go.Proofs.Ytkcfgmonpbgkgaa.listWalks

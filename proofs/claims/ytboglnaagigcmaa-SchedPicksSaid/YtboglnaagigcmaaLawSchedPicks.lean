/-
  For every input the call of lavabolaw7.SchedPicks returns true and leaves its arguments as they were; no condition.
-/
import Derived.Test.YtboglnaagigcmaaTold7
import Derived.Test.YtboglnaagigcmaaSchOne
import Derived.Test.YtboglnaagigcmaaRows
import Derived.WalkKit
import Derived.ProofKit
import Derived.OpenShut
import Derived.ShutString
import Derived.ChangeOld
import Derived.Below
namespace Go.Proofs.Ytboglnaagigcmaa.schedPicks
open Go.ChangeShapes Go.WideShapes Go.ChangeAt Go.RowKit
open Go.ChangeMaps (open_string shut_string)
open Go.Proofs.Ytboglnaagigcmaa.Mem Go.Proofs.Ytboglnaagigcmaa.Blk Go.Proofs.Ytboglnaagigcmaa.Cells Go.Proofs.Ytboglnaagigcmaa.SchM Go.Proofs.Ytboglnaagigcmaa.SchC Go.Proofs.Ytboglnaagigcmaa.SchD Go.Proofs.Ytboglnaagigcmaa.SchE Go.Proofs.Ytboglnaagigcmaa.Told7 Go.Proofs.Ytboglnaagigcmaa.Stages
set_option linter.unusedVariables false

theorem own : ownKnob Try.prog.godebug = none := by kernel_rfl
theorem laidOut : laidOutB Try.prog = true := by kernel_rfl

/-- WHAT THE WALK IS TOLD OF A SLICE OF INTEGERS THAT CAME IN: it is nil; or it leads to a row of 'cap' cells, the numbers 'zs' (the first 'len' are its elements, the rest its spare room), each fitting its kind. -/
def IsRow (k : IntKind) (w : World) (a : Option Addr) (len cap : Nat) (zs : List Int) : Prop :=
  (a = none ∧ len = 0 ∧ cap = 0 ∧ zs = []) ∨
  ∃ x, a = some x ∧ len ≤ cap ∧ cap ≤ maxLen ∧ zs.length = cap ∧ (∀ i, i < zs.length → w.cell? (x.add i) = some (.int k (zs.getD i 0))) ∧ ∀ n ∈ zs, (Lit.int k n).wf = true

/-- Of the first j of twelve those of B woken, each at its number; the others as new. -/
def pk (B : Nat → Bool) (j : Nat) : Sc := ⟨12, fun t => if t < j ∧ B t = true then 1 else 0, fun t => if t < j ∧ B t = true then (t : Int) else 0, fun _ => -1⟩
theorem pk_zero (B : Nat → Bool) : pk B 0 = fresh 12 := by
  unfold pk fresh
  simp
theorem pk_on {B : Nat → Bool} {j : Nat} (hj : j < 12) (hB : B j = true) : (pk B j).wakeB (j : Int) (j : Int) = true ∧ (pk B j).wake (j : Int) (j : Int) = pk B (j + 1) := by
  have h1 : (pk B j).wakeB (j : Int) (j : Int) = true := wakeB_on hj (by omega) (.inl (if_neg fun h => Nat.lt_irrefl j h.1))
  refine ⟨h1, ?_⟩
  rw [wake_on h1, Int.toNat_natCast]
  unfold Sc.set pk
  have hc : ∀ t, t ≠ j → ((t < j ∧ B t = true) ↔ (t < j + 1 ∧ B t = true)) := fun t ht => ⟨fun h => ⟨by omega, h.2⟩, fun h => ⟨by omega, h.2⟩⟩
  congr 1
  · funext t
    unfold upd
    dsimp only
    by_cases e : t = j
    · rw [if_pos e, e, if_pos ⟨by omega, hB⟩]
    · rw [if_neg e]
      simp only [hc t e]
  · funext t
    unfold upd
    dsimp only
    by_cases e : t = j
    · rw [if_pos e, e, if_pos ⟨by omega, hB⟩]
    · rw [if_neg e]
      simp only [hc t e]
  · funext t
    unfold upd
    split <;> rfl
theorem pk_off {B : Nat → Bool} {j : Nat} (hB : B j = false) : pk B (j + 1) = pk B j := by
  unfold pk
  have hc : ∀ t, (t < j + 1 ∧ B t = true) ↔ (t < j ∧ B t = true) := fun t => by
    refine ⟨fun h => ⟨?_, h.2⟩, fun h => ⟨by omega, h.2⟩⟩
    by_cases e : t = j
    · rw [e, hB] at h
      exact absurd h.2 (by decide)
    · omega
  simp only [hc]
def cnt (B : Nat → Bool) (j : Nat) : Nat := ((List.range j).filter B).length
theorem cnt_on {B : Nat → Bool} {j : Nat} (hB : B j = true) : cnt B (j + 1) = cnt B j + 1 := by
  unfold cnt
  rw [List.range_succ, List.filter_append, List.filter_cons_of_pos hB, List.filter_nil, List.length_append]; rfl
theorem cnt_off {B : Nat → Bool} {j : Nat} (hB : B j = false) : cnt B (j + 1) = cnt B j := by
  unfold cnt
  rw [List.range_succ, List.filter_append, List.filter_cons_of_neg (by simp [hB]), List.filter_nil, List.append_nil]
theorem cnt_le (B : Nat → Bool) (j : Nat) : cnt B j ≤ j := by
  have := List.length_filter_le B (List.range j)
  rwa [List.length_range] at this
theorem pk_ready (B : Nat → Bool) : (pk B 12).ready = (List.range 12).filter B := by
  unfold Sc.ready which upto
  show (List.range 12).filter _ = _
  refine List.filter_congr fun t ht => ?_
  have ht := List.mem_range.1 ht
  have hP : ((pk B 12).S t = 1 ∧ (pk B 12).O t = -1) ↔ B t = true := by
    show ((if t < 12 ∧ B t = true then (1 : Int) else 0) = 1 ∧ (-1 : Int) = -1) ↔ B t = true
    by_cases hB : B t = true
    · rw [if_pos ⟨ht, hB⟩]
      exact ⟨fun _ => hB, fun _ => ⟨rfl, rfl⟩⟩
    · rw [if_neg (fun h => hB h.2)]
      exact ⟨fun h => absurd h.1 (by omega), fun h => absurd h hB⟩
  unfold Sc.pred
  by_cases hB : B t = true
  · rw [decide_eq_true (hP.2 hB), hB]
  · rw [decide_eq_false (fun h => hB (hP.1 h))]
    simpa using hB
theorem getD_inj {R : List Nat} (hn : R.Nodup) {a b : Nat} (ha : a < R.length) (hb : b < R.length) (h : R.getD a 0 = R.getD b 0) : a = b := by
  rw [List.getD_eq_getElem?_getD, List.getD_eq_getElem?_getD, List.getElem?_eq_getElem ha, List.getElem?_eq_getElem hb] at h
  have h : R[a] = R[b] := h
  rw [← hn.idxOf_getElem a ha, ← hn.idxOf_getElem b hb, h]
/-- What so many picks in a row tell. -/
theorem picks_math (B : Nat → Bool) (F : Nat) (h : 1 ≤ cnt B 12) : ∃ pa : Nat → Nat, (∀ i, i < cnt B 12 → (pk B 12).pick ((F : Int) + (i : Int)) = ((pa i : Nat) : Int) ∧ pa i < 12 ∧ B (pa i) = true) ∧ ∀ i i', i < cnt B 12 → i' < i → pa i' ≠ pa i := by
  have hr := pk_ready B
  have hl : (pk B 12).ready.length = cnt B 12 := by rw [hr]; rfl
  have hnd : (pk B 12).ready.Nodup := which_nodup _ _ _
  refine ⟨fun i => (pk B 12).ready.getD ((F + i) % cnt B 12) 0, fun i hi => ?_, fun i i' hi hii e => ?_⟩
  · have hm : (F + i) % cnt B 12 < cnt B 12 := Nat.mod_lt _ (by omega)
    refine ⟨?_, ?_⟩
    · unfold Sc.pick
      rw [if_neg (fun e => by rw [e] at hl; simp at hl; omega), hl]
      have : (((F : Int) + (i : Int)) % ((cnt B 12 : Nat) : Int)).toNat = (F + i) % cnt B 12 := by
        rw [← Int.natCast_add, ← Int.natCast_emod, Int.toNat_natCast]
      rw [this]
    · have := getD_mem (zs := (pk B 12).ready) (j := (F + i) % cnt B 12) (by omega)
      rw [hr, List.mem_filter, List.mem_range] at this
      show (pk B 12).ready.getD ((F + i) % cnt B 12) 0 < 12 ∧ B ((pk B 12).ready.getD ((F + i) % cnt B 12) 0) = true
      rw [hr]
      exact this
  · have hm : (F + i) % cnt B 12 < cnt B 12 := Nat.mod_lt _ (by omega)
    have hm' : (F + i') % cnt B 12 < cnt B 12 := Nat.mod_lt _ (by omega)
    have h1 := getD_inj hnd (by omega) (by omega) e
    have h2 := Nat.sub_mod_eq_zero_of_mod_eq h1.symm
    rw [show F + i - (F + i') = i - i' by omega, Nat.mod_eq_of_lt (by omega)] at h2
    omega
theorem pick_zero {B : Nat → Bool} (h : cnt B 12 = 0) (n : Int) : (pk B 12).pick n = -1 := if_pos (by rw [pk_ready]; exact List.eq_nil_of_length_eq_zero h)
theorem pick_pos {B : Nat → Bool} (h : 1 ≤ cnt B 12) (n : Int) : ∃ q : Nat, (pk B 12).pick n = (q : Int) := by
  have hl : (pk B 12).ready.length = cnt B 12 := by rw [pk_ready]; rfl
  exact ⟨_, if_neg (fun e => by rw [e] at hl; simp at hl; omega)⟩

/-! ### STEP 1: THE WALK: the Go text returns true, AND WRITES NOTHING THAT WAS THERE: 'Below w.heap.size w w'' (Derived/Below.lean: '.refl', '.alloc', '.drew', '.setCell' at a new block, '.trans'). Open each 'IsRow' by 'rcases' AHEAD of 'go_enter'; part every test ahead of the walk. -/
set_option maxHeartbeats 4000000 in
set_option maxRecDepth 100000 in
theorem walk (a0 : Int) (a1 : Int) (w : World) (w0 : (Lit.int .i64 a0).wf = true) (w1 : (Lit.int .i64 a1).wf = true) :
    Calls Try.prog 4 #[.int .i64 a0, .int .i64 a1] w fun e w' => e = .returned (.bool true) ∧ Below w.heap.size w w' := by
  have k0 := bounds_i64 w0
  have k1 := bounds_i64 w1
  obtain ⟨F, hF, hF5⟩ := tmod_nat a1 100000 (by omega)
  simp only [Int.cast_ofNat_Int] at hF
  have hFz : (F : Int) < 100000 := by omega
  clear hF5
  obtain ⟨B, hB⟩ : ∃ B : Nat → Bool, B = fun t => bits BinOp.and IntKind.i64 (a0 / 2 ^ t) 1 == 1 := ⟨_, rfl⟩
  have HBT : Hid (∀ t, (B t = true → bits BinOp.and IntKind.i64 (a0 / 2 ^ t) 1 = 1) ∧ (B t = false → (bits BinOp.and IntKind.i64 (a0 / 2 ^ t) 1 == 1) = false)) := fun t => by
    rw [hB]
    exact ⟨fun h => by simpa using h, fun h => h⟩
  clear hB
  have CN := Lib.hid fun (wx : World) => new_good (w := wx) 12 (by omega) (by omega)
  simp only [Int.cast_ofNat_Int] at CN
  go_enter Try.func4, Try.ntmps4
  go_wp2_with (go_at_call 7; (with_reducible refine (CN.out _).mono ?_); rintro e w4 ⟨d, D, c, rfl, hl, hd1, hd2, hg⟩; have H0 := Lib.hid hl; have HD := Lib.hid (And.intro hd1 hd2); have G0 := Lib.hid hg; clear hl hd1 hd2 hg)
  have KG : Hid (∀ {a b : World}, Grow a b → Kept (At D) a b) := fun h => Grow.kept h
  go_loopg [6, 7] 12 (fun gx n i wr => ∃ j : Nat, j + gx = 12 ∧ i = .int .i64 (j : Int) ∧ n = .int .i64 ((cnt B j : Nat) : Int) ∧ SchAt wr d D c (pk B j) ∧ Kept (At D) w4 wr)
  case atStart => exact ⟨0, by omega, rfl, rfl, by rw [pk_zero]; exact H0.out, Kept.refl _ _⟩
  case round =>
    obtain ⟨j, hg, rfl, rfl, hs, hk⟩ := hrel
    have HG := Lib.hid hg
    have HK := Lib.hid hk
    have HS := Lib.hid hs
    have HCL := Lib.hid (cnt_le B j)
    clear hg hk hs
    by_cases hj : j < 12
    · have hjz : (j : Int) < 12 := by omega
      have hcz : ((cnt B j : Nat) : Int) ≤ 12 := by have := HCL.out; omega
      cases hb : B j with
      | true =>
        have hbt := (HBT.out j).1 hb
        have HP := Lib.hid (pk_on hj hb)
        have HC := Lib.hid (cnt_on hb)
        clear hb hj
        generalize cnt B j = n at *
        go_wp2_with (go_at_call 10; (with_reducible refine (t_wake _ _ HS.out HP.out.1 HP.out.2).mono ?_); rintro e w5 ⟨rfl, hl, hk⟩; have H1 := Lib.hid hl; have G1 := Lib.hid hk; clear hl hk)
        go_roundg (gk - 1)
        case measure => have := HG.out; omega
        case rel => exact ⟨j + 1, by have := HG.out; omega, by go_num, by rw [HC.out]; go_num, H1.out, HK.out.trans G1.out⟩
      | false =>
        have hbt := (HBT.out j).2 hb
        have HP := Lib.hid (pk_off hb)
        have HC := Lib.hid (cnt_off hb)
        clear hb hj
        go_wp2
        go_roundg (gk - 1)
        case measure => have := HG.out; omega
        case rel => exact ⟨j + 1, by have := HG.out; omega, by go_num, by rw [HC.out], by rw [HP.out]; exact HS.out, HK.out⟩
    · obtain rfl : j = 12 := by have := HG.out; omega
      clear hj
      have HBL : Hid (∀ {wx : World} {G : Nat → Prop}, Kept G wr wx → (∀ k, G k → w.heap.size ≤ k) → Below w.heap.size w wx) := fun {wx} {G} h hG => Grow.below (Kept.then G0.out (Kept.then (F := fun k => w.heap.size ≤ k) (HK.out.mono fun k _ hk => by have hk : k = D := hk; have := HD.out.2; omega) h fun k _ hk => hG k hk) fun k hk ho => by omega)
      by_cases hz : cnt B 12 = 0
      · have HPZ := Lib.hid (pick_zero hz a1)
        rw [hz]
        clear hz HCL
        go_wp2_with (first
          | (go_at_call 9; (with_reducible refine (told_any _).mono ?_); rintro e w5 ⟨rfl, hge⟩; have HGE := Lib.hid hge; have H1 := Lib.hid (HS.out.grow hge); clear hge)
          | (go_at_call 21; (with_reducible refine (t_pick _ H1.out HPZ.out).mono ?_); rintro e w6 ⟨rfl, hg⟩; have G2 := Lib.hid hg; clear hg))
        go_ret
        exact ⟨rfl, HBL.out (HGE.out.trans G2.out) (fun _ x => x.elim)⟩
      · have hz1 : 1 ≤ cnt B 12 := by omega
        obtain ⟨pa, hpa, hinj⟩ := picks_math B F hz1
        obtain ⟨q0, hq0⟩ := pick_pos hz1 a1
        have HPA := Lib.hid hpa
        have HINJ := Lib.hid hinj
        have HQ0 := Lib.hid hq0
        have hL1 : (1 : Int) ≤ ((cnt B 12 : Nat) : Int) := by omega
        have hL12 : ((cnt B 12 : Nat) : Int) ≤ 12 := by have := HCL.out; omega
        have hLne : (((cnt B 12 : Nat) : Int) == 0) = false := beq_eq_false_iff_ne.2 (by omega)
        have HLZ := Lib.hid hz1
        clear hpa hinj hq0 hz hz1 HCL
        have hF0 : 0 ≤ (F : Int) := by omega
        generalize (F : Int) = fi at *
        generalize cnt B 12 = L at *
        generalize pk B 12 = T at *
        go_upto_region 14 with (fail)
        have hrow : Row (wr.alloc (.cells #[.bool false, .bool false, .bool false, .bool false, .bool false, .bool false, .bool false, .bool false, .bool false, .bool false, .bool false, .bool false] 45)) wr.heap.size 12 (fun _ => .bool false) :=
          Row.of_blk (Blk.new wr 45 [.bool false, .bool false, .bool false, .bool false, .bool false, .bool false, .bool false, .bool false, .bool false, .bool false, .bool false, .bool false]) rfl (fun i hi => by
            rcases (show i = 0 ∨ i = 1 ∨ i = 2 ∨ i = 3 ∨ i = 4 ∨ i = 5 ∨ i = 6 ∨ i = 7 ∨ i = 8 ∨ i = 9 ∨ i = 10 ∨ i = 11 by omega) with e | e | e | e | e | e | e | e | e | e | e | e
            all_goals (subst e; rfl))
        have HROW := Lib.hid hrow
        have HGA : Hid (Grow wr (wr.alloc (.cells #[.bool false, .bool false, .bool false, .bool false, .bool false, .bool false, .bool false, .bool false, .bool false, .bool false, .bool false, .bool false] 45))) := (Kept.refl _ _).alloc _
        clear hrow
        have HGB : Hid (w.heap.size ≤ wr.heap.size ∧ d < wr.heap.size ∧ D < wr.heap.size) := by
          have h1 := HS.out.r.lt
          have h2 := G0.out.size
          have h3 := HK.out.size
          exact ⟨by omega, h1.1, h1.2⟩
        generalize wr.alloc (.cells #[.bool false, .bool false, .bool false, .bool false, .bool false, .bool false, .bool false, .bool false, .bool false, .bool false, .bool false, .bool false] 45) = wa at HROW HGA ⊢
        generalize wr.heap.size = g at *
        obtain ⟨wo, rfl⟩ : ∃ wo, wo = wr := ⟨_, rfl⟩
        go_wp2
        go_loopg [10] L (fun gx i wx => ∃ (j : Nat) (sn : Nat → Bool), j + gx = L ∧ i = .int .i64 (j : Int) ∧ Row wx g 12 (fun t => .bool (sn t)) ∧ (∀ t, sn t = true → ∃ i', i' < j ∧ t = pa i') ∧ SchAt wx d D c T ∧ Kept (At g) wa wx)
        case atStart => exact ⟨0, fun _ => false, by omega, rfl, HROW.out, fun t h => absurd h (by simp), HS.out.grow HGA.out, Kept.refl _ _⟩
        case round =>
          obtain ⟨j, sn, hg, rfl, hrw, hsn, hs, hk⟩ := hrel
          have HG2 := Lib.hid hg
          have HRW := Lib.hid hrw
          have HSN := Lib.hid hsn
          have HS2 := Lib.hid hs
          have HK2 := Lib.hid hk
          clear hg hrw hsn hs hk
          by_cases hj : j < L
          · have hjz : (j : Int) < (L : Int) := by omega
            have hp := HPA.out j hj
            have hnew : sn (pa j) = false := by
              cases hb : sn (pa j) with
              | false => rfl
              | true =>
                obtain ⟨i', hi, e⟩ := HSN.out _ hb
                exact absurd e.symm (HINJ.out j i' hj hi)
            have HPP := Lib.hid hp.1
            have hbt := (HBT.out _).1 hp.2.2
            have hpz : ((pa j : Nat) : Int) < 12 := by have := hp.2.1; omega
            have HPL : Hid (pa j < 12) := hp.2.1
            have HJ := Lib.hid hj
            have r0 := HRW.out.cell HPL.out
            have f0 := HRW.out.frozen (pa j)
            rw [hnew] at r0
            clear hp hj hnew
            have HSN2 : Hid (∀ t, (if t = pa j then true else sn t) = true → ∃ i', i' < j + 1 ∧ t = pa i') := fun t ht => by
              by_cases e : t = pa j
              · exact ⟨j, by omega, e⟩
              · rw [if_neg e] at ht
                obtain ⟨i', h1, h2⟩ := HSN.out t ht
                exact ⟨i', by omega, h2⟩
            generalize pa j = q at *
            have HRQ : Hid (∀ wx, Grow wr wx → wx.cell? ⟨g, q, none⟩ = some (.bool false) ∧ wx.frozen? ⟨g, q, none⟩ = false) := fun wx h => ⟨h.cellN r0 id, (h.frozen (p := ⟨g, q, none⟩) HRW.out.lt id).trans f0⟩
            clear r0 f0
            have hFj : fi + (j : Int) < 100012 := by omega
            go_upto_region 19 with (go_at_call 21; (with_reducible refine (t_pick _ HS2.out HPP.out).mono ?_); rintro e w6 ⟨rfl, hg⟩; have G2 := Lib.hid hg; clear hg)
            have r0 := (HRQ.out _ G2.out).1
            have f0 := (HRQ.out _ G2.out).2
            have HRW3 := Lib.hid (HRW.out.kept G2.out id)
            have HKK : Hid (Kept (At g) wr w6) := Grow.kept G2.out
            go_wp2
            go_roundg (gk - 1)
            case measure => have := HG2.out; have := HJ.out; omega
            case rel =>
              refine ⟨j + 1, fun t => if t = q then true else sn t, by have := HG2.out; have := HJ.out; omega, by go_num, (HRW3.out.set q (.bool true)).congr fun i _ => ?_, HSN2.out, ?_, (HK2.out.trans HKK.out).trans (kept_set _ _ _ _)⟩
              · show _ = Value.bool (if i = q then true else sn i)
                by_cases e : i = q
                · rw [if_pos e, if_pos e]
                · rw [if_neg e, if_neg e]
              · exact (HS2.out.grow G2.out).kept (kept_set w6 g q (.bool true)) (fun e => by have e : d = g := e; have := HGB.out.2.1; omega) (fun e => by have e : D = g := e; have := HGB.out.2.2; omega)
          · obtain rfl : j = L := by have := HG2.out; omega
            have hq0 : 0 ≤ (q0 : Int) := by omega
            go_wp2_with (first
              | (go_at_call 9; (with_reducible refine (told_any _).mono ?_); rintro e w5 ⟨rfl, hge⟩; have HGE := Lib.hid hge; have H1 := Lib.hid (HS2.out.grow hge); clear hge)
              | (go_at_call 21; (with_reducible refine (t_pick _ H1.out HQ0.out).mono ?_); rintro e w6 ⟨rfl, hg⟩; have G2 := Lib.hid hg; clear hg))
            go_ret
            exact ⟨rfl, HBL.out (G := At g) (((Grow.kept HGA.out).trans HK2.out).trans (Grow.kept (HGE.out.trans G2.out))) (fun k hk => by have hk : k = g := hk; have := HGB.out.1; omega)⟩

/-! ### THE ROW's STEP: WRITTEN OUT: LEAVE IT -/
set_option maxRecDepth 100000 in
theorem lifted (os : Os) (started : os.Started) (H : Type) (enc : TypeId × Value → H) :
    ReturnsInHanded {} Try.checked os 4 .any (Rows.schedPicksSpec.pre6 enc Try.prog Try.f4 Rows.schedPicksRow.domain false) (Rows.schedPicksSpec.post enc Try.prog Try.f4 false true false false) := by
  refine returnsInHanded_of_change (C := Try.checked) own started (by kernel_rfl) Try.func4
    (ChangeSpec.witness6 (enc := enc) (C := Try.checked) false ⟨#[], #[.int .i64 0, .int .i64 0], []⟩ 8 (by kernel_rfl) (by kernel_rfl) (by kernel_rfl) (by kernel_rfl)) ?_
  intro W base args ds gs before hval0 hW hcnd _
  have hval : ∀ (j : Nat) t v, Try.f4.params[j]? = some t → args[j]? = some v → Value.okWide Try.prog W .any base t v := hval0
  have hW' := hW
  obtain ⟨p, q, hA0, hV, rfl, hfz, hnd⟩ := hW
  have hA : DataW.TrodAll enc Try.prog W 0 (fun _ => true) true Try.f4.params.toList args.toList ds p := hA0
  rw [Try.params4] at hA hval
  obtain ⟨v0, vs0, d0, ds0, p0, q0, hargs, rfl, rfl, h0, r0⟩ := trodAll_cons hA
  obtain ⟨v1, vs1, d1, ds1, p1, q1, rfl, rfl, rfl, h1, r1⟩ := trodAll_cons r0
  obtain ⟨rfl, rfl, rfl⟩ := trodAll_nil r1
  obtain rfl : args = #[v0, v1] := by cases args; simp_all
  obtain ⟨rfl, rfl⟩ := trodVars_none hV
  obtain ⟨a0, rfl, rfl, rfl, w0⟩ := open_int Try.underlying3 (hval 0 3 v0 rfl rfl) h0
  obtain ⟨a1, rfl, rfl, rfl, w1⟩ := open_int Try.underlying3 (hval 1 3 v1 rfl rfl) h1
  clear hA0 hval0
  refine (walk a0 a1 W w0 w1).mono fun e W' ⟨he, bel⟩ => ?_
  subst he
  exact ⟨_, rfl, _, _, _, [], _, [], hW', trodAll_mk1 (shut_bool Try.underlying4 _), (trodAll_cons_mk (shut_int Try.underlying3 w0) (trodAll_cons_mk (shut_int Try.underlying3 w1) trodAll_mk0)), rfl, bel.frame _, fun h => by cases h⟩

theorem over : Rows.schedPicksRow.holds Try.pinned (OpenSpec.ofChange Rows.schedPicksSpec) :=
  OpenClaim.holds_of_wide 4 Try.f4 rfl rfl rfl rfl rfl rfl rfl ⟨rfl, rfl, rfl, rfl, rfl⟩ rfl rfl rfl rfl rfl (by kernel_rfl) Try.func4 (by kernel_rfl)
    (of_decide_eq_true (by kernel_rfl)) (by unfold Func.isWrapper; first | (rw [if_pos (by decide +kernel)]; kernel_rfl) | (rw [if_neg (by decide +kernel)]; exact ⟨rfl, rfl⟩))
    (fun os started H enc _ => lifted os started H enc)

/-- ████ THE STATEMENT ████ -/
theorem proved : Rows.SchedPicksSaid := over
#print axioms proved
end Go.Proofs.Ytboglnaagigcmaa.schedPicks

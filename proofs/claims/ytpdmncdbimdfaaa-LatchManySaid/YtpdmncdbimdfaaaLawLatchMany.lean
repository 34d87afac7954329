/-
  For every input the call of lavabolaw6.LatchMany returns true and leaves its arguments as they were; no condition.
-/
import Derived.Test.YtpdmncdbimdfaaaHold
import Derived.Deep.CutRange
import Derived.Test.YtpdmncdbimdfaaaRows
import Derived.WalkKit
import Derived.ProofKit
import Derived.OpenShut
import Derived.ShutString
import Derived.ChangeOld
import Derived.Below
namespace Go.Proofs.Ytpdmncdbimdfaaa.latchMany
open Go.ChangeShapes Go.WideShapes Go.ChangeAt Go.RowKit
open Go.ChangeMaps (open_string shut_string)
open Go.Proofs.Ytpdmncdbimdfaaa.Mem Go.Proofs.Ytpdmncdbimdfaaa.Blk Go.Proofs.Ytpdmncdbimdfaaa.Cells Go.Proofs.Ytpdmncdbimdfaaa.GsC Go.Proofs.Ytpdmncdbimdfaaa.LatM Go.Proofs.Ytpdmncdbimdfaaa.LatC Go.Proofs.Ytpdmncdbimdfaaa.LatY Go.Proofs.Ytpdmncdbimdfaaa.LatZ Go.Proofs.Ytpdmncdbimdfaaa.LatO Go.Proofs.Ytpdmncdbimdfaaa.LatI Go.Proofs.Ytpdmncdbimdfaaa.LatR Go.Proofs.Ytpdmncdbimdfaaa.LatN Go.Proofs.Ytpdmncdbimdfaaa.LatA Go.Proofs.Ytpdmncdbimdfaaa.LatL Go.Proofs.Ytpdmncdbimdfaaa.LatD Go.Proofs.Ytpdmncdbimdfaaa.LatF Go.Proofs.Ytpdmncdbimdfaaa.LatG Go.Proofs.Ytpdmncdbimdfaaa.Told6 Go.Proofs.Ytpdmncdbimdfaaa.HoldC Go.Proofs.Ytpdmncdbimdfaaa.Stages
set_option linter.unusedVariables false

theorem own : ownKnob Try.prog.godebug = none := by kernel_rfl
theorem laidOut : laidOutB Try.prog = true := by kernel_rfl

/-- WHAT THE WALK IS TOLD OF A SLICE OF INTEGERS THAT CAME IN: it is nil; or it leads to a row of 'cap' cells, the numbers 'zs' (the first 'len' are its elements, the rest its spare room), each fitting its kind. -/
def IsRow (k : IntKind) (w : World) (a : Option Addr) (len cap : Nat) (zs : List Int) : Prop :=
  (a = none ∧ len = 0 ∧ cap = 0 ∧ zs = []) ∨
  ∃ x, a = some x ∧ len ≤ cap ∧ cap ≤ maxLen ∧ zs.length = cap ∧ (∀ i, i < zs.length → w.cell? (x.add i) = some (.int k (zs.getD i 0))) ∧ ∀ n ∈ zs, (Lit.int k n).wf = true

def rng (k : Nat) : List Int := (List.range k).map (fun (i : Nat) => (i : Int))
theorem rng_len (k : Nat) : (rng k).length = k := by simp [rng]
theorem mem_rng {k : Nat} {x : Int} : x ∈ rng k ↔ 0 ≤ x ∧ x < (k : Int) := by
  unfold rng
  rw [List.mem_map]
  constructor
  · rintro ⟨i, hi, rfl⟩
    have := List.mem_range.1 hi
    omega
  · rintro ⟨h1, h2⟩
    exact ⟨x.toNat, List.mem_range.2 (by omega), by omega⟩
theorem rng_succ (k : Nat) : rng (k + 1) = rng k ++ [(k : Int)] := by simp [rng, List.range_succ]
/-- The first j read. -/
def sl (j : Nat) : La := ⟨-1, rng j, []⟩
theorem sl_step (j : Nat) : goIn (-1) (rng j) ([] ++ [-2 - (j : Int)]) = (sl (j + 1), [(j : Int)]) := by
  have hw : who (-2 - (j : Int)) = (j : Int) := by unfold who; rw [if_pos (by omega)]; omega
  have hg : gives (-1) (rng j) (-2 - (j : Int)) = true := gives_iff.2 ⟨rfl, fun e => by rw [hw] at e; omega⟩
  rw [List.nil_append, goIn_read hg (by rw [hw]; omega), hw, goIn_nil, ins_end fun x hx => (mem_rng.1 hx).2, ← rng_succ]
  rfl
theorem sl_has {j : Nat} : (sl j).has (j : Int) = false := by
  unfold La.has sl
  have h1 : ((-1 : Int) == (j : Int)) = false := beq_eq_false_iff_ne.2 (by omega)
  have h2 : (rng j).contains (j : Int) = false := by
    cases h : (rng j).contains (j : Int) with
    | false => rfl
    | true =>
      have := mem_rng.1 (by simpa using h)
      omega
  dsimp only
  rw [h1, h2]
  simp
theorem sl_good : ∀ {j : Nat}, j ≤ 20 → LatM.Good (sl j)
  | 0, _ => good_free
  | j + 1, h => by
    have hg := sl_good (j := j) (by omega)
    have := (goIn_spec (ask_pre (x := -2 - (j : Int)) (t := (j : Int)) hg (task_iff.2 (by omega)) sl_has rfl (.inr rfl))).1
    rwa [show goIn (sl j).W (sl j).R ((sl j).Q ++ [-2 - (j : Int)]) = (sl (j + 1), [(j : Int)]) from sl_step j] at this
/-- Those of R read; 30 waits for writing, 31 for reading; or, if there are none: 30 writes, 31 waits. -/
def lm (R : List Int) : La := if R = [] then ⟨30, [], [-33]⟩ else ⟨-1, R, [30, -33]⟩
theorem lm_some {R : List Int} (h : R ≠ []) : lm R = ⟨-1, R, [30, -33]⟩ := if_neg h
def lk (R : List Int) : La := ⟨-1, R, [30]⟩
section
variable {R : List Int} {t : Int}
theorem not_given (h : R ≠ []) : gives (-1) R 30 = false := by
  cases e : gives (-1) R 30 with
  | false => rfl
  | true => exact absurd ((gives_iff.1 e).2 rfl) h
theorem lock_step (h : R ≠ []) : goIn (-1) R ([] ++ [30]) = (lk R, []) := goIn_not (not_given h)
theorem has_no {L : La} (hp : Pre L.W L.R L.Q) (hW : L.W ≠ t) (hR : t ∉ L.R) : L.has t = false := by
  cases e : L.has t with
  | false => rfl
  | true =>
    rcases (has_iff hp).1 e with ⟨_, h | h⟩
    · exact absurd h hW
    · exact absurd h hR
theorem lk_good {k : Nat} (h1 : 1 ≤ k) (h : k ≤ 20) : LatM.Good (lk (rng k)) ∧ (lk (rng k)).has 31 = false ∧ (lk (rng k)).waits 31 = false := by
  have hg := sl_good h
  have hne : rng k ≠ [] := fun e => by have := rng_len k; rw [e] at this; simp at this; omega
  have g := (goIn_spec (ask_pre (x := 30) (t := 30) hg rfl (has_no hg.pre (show (-1 : Int) ≠ 30 by decide) fun hm => by have := mem_rng.1 hm; omega) rfl (.inl rfl))).1
  rw [show goIn (sl k).W (sl k).R ((sl k).Q ++ [30]) = (lk (rng k), []) from lock_step hne] at g
  exact ⟨g, has_no g.pre (show (-1 : Int) ≠ 31 by decide) fun hm => by have := mem_rng.1 hm; omega, rfl⟩
theorem share_step (h : R ≠ []) (hg : LatM.Good (lk R)) : goIn (-1) R ([30] ++ [-2 - 31]) = (lm R, []) := by
  rw [lm_some h]
  exact ask_behind (L := lk R) (x := -33) hg (by simp [lk])
theorem lm_good {k : Nat} (h1 : 1 ≤ k) (h : k ≤ 20) : LatM.Good (lm (rng k)) := by
  obtain ⟨g, e1, e2⟩ := lk_good h1 h
  have hne : rng k ≠ [] := fun e => by have := rng_len k; rw [e] at this; simp at this; omega
  have := (goIn_spec (ask_pre (x := -2 - 31) (t := 31) g rfl e1 e2 (.inr rfl))).1
  rwa [show goIn (lk (rng k)).W (lk (rng k)).R ((lk (rng k)).Q ++ [-2 - 31]) = (lm (rng k), []) from share_step hne g] at this
/-- R without t. -/
def rem (R : List Int) (t : Int) : List Int := R.filter (fun x => !decide (x = t))
theorem mem_rem {x : Int} : x ∈ rem R t ↔ x ∈ R ∧ x ≠ t := by
  unfold rem
  rw [List.mem_filter]
  simp
theorem lm_has (h : LatM.Good (lm R)) (ht : t ∈ R) : (lm R).has t = true := by
  have hne : R ≠ [] := List.ne_nil_of_mem ht
  rw [lm_some hne] at h ⊢
  exact (has_iff h.pre).2 ⟨(task_iff.1 (h.pre.r t ht)).1, .inr ht⟩
theorem lm_free (h : LatM.Good (lm R)) (ht : t ∈ R) : goIn (if (lm R).W = t then -1 else (lm R).W) (if (lm R).W = t then (lm R).R else (lm R).R.filter (fun x => !decide (x = t))) (lm R).Q = (lm (rem R t), if rem R t = [] then [30] else []) ∧ LatM.Good (lm (rem R t)) ∧ (rem R t).length + 1 = R.length := by
  have hne : R ≠ [] := List.ne_nil_of_mem ht
  have hg := (goIn_spec (free_pre h (lm_has h ht))).1
  have e : goIn (if (lm R).W = t then -1 else (lm R).W) (if (lm R).W = t then (lm R).R else (lm R).R.filter (fun x => !decide (x = t))) (lm R).Q = (lm (rem R t), if rem R t = [] then [30] else []) := by
    rw [lm_some hne] at h ⊢
    have h0 := task_iff.1 (h.pre.r t ht)
    dsimp only
    rw [if_neg (by omega), if_neg (by omega)]
    show goIn (-1) (rem R t) [30, -33] = _
    by_cases hr : rem R t = []
    · rw [hr]; rfl
    · rw [goIn_not (not_given hr), lm_some hr, if_neg hr]
  rw [e] at hg
  refine ⟨e, hg, ?_⟩
  rw [lm_some hne] at h
  have hnd := up_nodup h.pre.up
  have h1 : rem R t = R.erase t := by
    rw [hnd.erase_eq_filter]
    exact List.filter_congr fun x _ => by
      by_cases e : x = t
      · simp [e]
      · simp [e]
  rw [h1, List.length_erase_of_mem ht]
  have := List.length_pos_of_mem ht
  omega
end
theorem row_false20 (w : World) (t : TypeId) : Row (w.alloc (.cells #[Value.bool false, Value.bool false, Value.bool false, Value.bool false, Value.bool false, Value.bool false, Value.bool false, Value.bool false, Value.bool false, Value.bool false, Value.bool false, Value.bool false, Value.bool false, Value.bool false, Value.bool false, Value.bool false, Value.bool false, Value.bool false, Value.bool false, Value.bool false] t)) w.heap.size 20 (fun _ => .bool false) := by
  refine Row.of_blk (Blk.new w t (List.replicate 20 (.bool false))) rfl fun i hi => ?_
  rw [List.getElem?_replicate, if_pos hi]
section
variable {w : World} {v : Value}
theorem m_share (j : Nat) (hj : j < 20) (h : LatV w (sl j) v) : Calls Try.prog 7 #[v, .int .i64 (j : Int)] w (AskX w (sl (j + 1)) (-1) (j + 1) 0 true) := by
  refine (share_any h (sl_good (by omega)) (j : Int) (task_iff.2 (by omega)) sl_has rfl).mono fun _ _ h => ?_
  rw [show goIn (sl j).W (sl j).R ((sl j).Q ++ [-2 - (j : Int)]) = (sl (j + 1), [(j : Int)]) from sl_step j] at h
  exact AskX.of h rfl rfl (rng_len _) rfl rfl
theorem m_lock (k : Nat) (h1 : 1 ≤ k) (hk : k ≤ 20) (h : LatV w (sl k) v) : Calls Try.prog 6 #[v, .int .i64 30] w (AskX w (lk (rng k)) (-1) k 1 false) := by
  have hg := sl_good hk
  have hne : rng k ≠ [] := fun e => by have := rng_len k; rw [e] at this; simp at this; omega
  refine (lock_any h hg 30 rfl (has_no hg.pre (show (-1 : Int) ≠ 30 by decide) fun hm => by have := mem_rng.1 hm; omega) rfl).mono fun _ _ h => ?_
  rw [show goIn (sl k).W (sl k).R ((sl k).Q ++ [30]) = (lk (rng k), []) from lock_step hne] at h
  exact AskX.of h rfl rfl (rng_len _) rfl rfl
theorem m_share31 (k : Nat) (h1 : 1 ≤ k) (hk : k ≤ 20) (h : LatV w (lk (rng k)) v) : Calls Try.prog 7 #[v, .int .i64 31] w (AskX w (lm (rng k)) (-1) k 2 false) := by
  obtain ⟨g, e1, e2⟩ := lk_good h1 hk
  have hne : rng k ≠ [] := fun e => by have := rng_len k; rw [e] at this; simp at this; omega
  refine (share_any h g 31 rfl e1 e2).mono fun _ _ h => ?_
  rw [show goIn (lk (rng k)).W (lk (rng k)).R ((lk (rng k)).Q ++ [-2 - 31]) = (lm (rng k), []) from share_step hne g] at h
  refine AskX.of h rfl ?_ ?_ ?_ rfl
  · rw [lm_some hne]
  · rw [lm_some hne]; exact rng_len _
  · rw [lm_some hne]; rfl
end
theorem lax_some {M : Nat → Prop} {b : Nat} {w : World} {R : List Int} (hne : R ≠ []) (h : LAx M b w (lm R) (lm R).W (lm R).R.length (lm R).Q.length) : LAx M b w (lm R) (-1) R.length 2 := by
  have e1 : (lm R).W = -1 := by rw [lm_some hne]
  have e2 : (lm R).R.length = R.length := by rw [lm_some hne]
  have e3 : (lm R).Q.length = 2 := by rw [lm_some hne]; rfl
  rwa [e1, e2, e3] at h
theorem lax_of {M : Nat → Prop} {b : Nat} {w : World} {R : List Int} {W : Int} {n m : Nat} (h : LAx M b w (lm R) W n m) (e1 : W = (lm R).W) (e2 : n = (lm R).R.length) (e3 : m = (lm R).Q.length) : LAx M b w (lm R) (lm R).W (lm R).R.length (lm R).Q.length := by
  subst e1 e2 e3; exact h
section
variable {w : World} {v : Value} {R : List Int} {t : Int}
theorem m_free_last (h : LatV w (lm R) v) (hg : LatM.Good (lm R)) (ht : t ∈ R) (hr : rem R t = []) : Calls Try.prog 8 #[v, .int .i64 t] w (FreeX w (lm (rem R t)) [30] 30 0 1 1) := by
  obtain ⟨e, _, _⟩ := lm_free hg ht
  refine (free_any h hg t (lm_has hg ht)).mono fun _ _ h => ?_
  rw [e] at h
  exact FreeX.of h rfl (if_pos hr) (by rw [hr]; rfl) (by rw [hr]; rfl) (by rw [hr]; rfl) rfl
theorem m_free_more (h : LatV w (lm R) v) (hg : LatM.Good (lm R)) (ht : t ∈ R) (hr : rem R t ≠ []) : Calls Try.prog 8 #[v, .int .i64 t] w (FreeX w (lm (rem R t)) [] (-1) (rem R t).length 2 0) := by
  obtain ⟨e, _, _⟩ := lm_free hg ht
  refine (free_any h hg t (lm_has hg ht)).mono fun _ _ h => ?_
  rw [e] at h
  exact FreeX.of h rfl (if_neg hr) (by rw [lm_some hr]) (by rw [lm_some hr]) (by rw [lm_some hr]; rfl) rfl
def lx : La := ⟨-1, [31], []⟩
theorem m_free30 (h : LatV w (lm []) v) (hg : LatM.Good (lm [])) : Calls Try.prog 8 #[v, .int .i64 30] w (FreeX w lx [31] (-1) 1 0 1) :=
  (free_any h hg 30 rfl).mono fun _ _ h => FreeX.of h rfl rfl rfl rfl rfl rfl
end
/-- Who of the K is gone. -/
def Gone (K : Nat) (R : List Int) (G : Nat → Bool) : Prop := (∀ q, q < K → (G q = true ↔ (q : Int) ∉ R)) ∧ ∀ x ∈ R, 0 ≤ x ∧ x < (K : Int)
theorem gone_zero (K : Nat) : Gone K (rng K) (fun _ => false) := ⟨fun q hq => ⟨fun e => Bool.noConfusion e, fun e => absurd (mem_rng.2 ⟨by omega, by omega⟩) e⟩, fun x hx => mem_rng.1 hx⟩
theorem gone_step {K T : Nat} {R : List Int} {G : Nat → Bool} (h : Gone K R G) : Gone K (rem R (T : Int)) (fun q => if q = T then true else G q) := by
  refine ⟨fun q hq => ?_, fun x hx => h.2 x (mem_rem.1 hx).1⟩
  rw [mem_rem]
  dsimp only
  by_cases e : q = T
  · subst e
    simp
  · rw [if_neg e, h.1 q hq]
    have : (q : Int) ≠ (T : Int) := by omega
    simp [this]

/-! ### STEP 1: THE WALK: the Go text returns true, AND WRITES NOTHING THAT WAS THERE: 'Below w.heap.size w w'' (Derived/Below.lean: '.refl', '.alloc', '.drew', '.setCell' at a new block, '.trans'). Open each 'IsRow' by 'rcases' AHEAD of 'go_enter'; part every test ahead of the walk. -/
set_option maxHeartbeats 4000000 in
set_option maxRecDepth 100000 in
theorem walk (a0 : Int) (a1 : Option Addr) (len1 cap1 : Nat) (z1 : List Int) (w : World) (w0 : (Lit.int .i64 a0).wf = true) (w1 : IsRow .i64 w a1 len1 cap1 z1) :
    Calls Try.prog 4 #[.int .i64 a0, .slice a1 len1 cap1] w fun e w' => e = .returned (.bool true) ∧ Below w.heap.size w w' := by
  obtain ⟨hs1, hle1, hcap1, hwf1⟩ := Sl.of_isRow w1
  clear w1 hwf1
  generalize z1.take len1 = zs at hs1
  have kc1 := hcap1
  unfold maxLen at kc1
  have k0 := bounds_i64 w0
  obtain ⟨n0, hn, hn20⟩ := tmod_nat a0 20 (by omega)
  simp only [Int.cast_ofNat_Int] at hn
  have hnz : (n0 : Int) < 20 := by omega
  obtain ⟨K, hK⟩ : ∃ K : Nat, K = 1 + n0 := ⟨_, rfl⟩
  have HK := Lib.hid hK
  have hK1 : 1 ≤ K := by omega
  have hK20 : K ≤ 20 := by omega
  clear hK
  have HS := Lib.hid hs1
  clear hs1 hle1 hcap1 w0 k0
  go_enter Try.func4, Try.ntmps4
  go_upto_region 1 with (fail)
  go_cut [5] (fun s5 wx => s5 = .int .i64 (K : Int) ∧ w = wx)
  case first =>
    go_wp2_with fail
    all_goals (go_meet; exact ⟨by have := HK.out; congr 1; omega, rfl⟩)
  case rest =>
    obtain ⟨rfl, rfl⟩ := hcut
    clear hn hnz hn20 HK n0
    have hKz : (K : Int) ≤ 20 := by omega
    have hKz1 : (1 : Int) ≤ (K : Int) := by omega
    go_upto_block 0 with (go_at_call 5; (with_reducible refine new_any.mono ?_); rintro e w1 ⟨rfl, hg⟩; have G1 := Lib.hid hg; clear hg)
    have hb := Blk.new w1 25 [.int .i64 (-1), .slice none 0 0, .slice none 0 0]
    have hg2 : Grow w (w1.alloc (.cells #[.int .i64 (-1), .slice none 0 0, .slice none 0 0] 25)) := G1.out.trans ((Kept.refl _ _).alloc _)
    have hs2 : (w1.alloc (.cells #[.int .i64 (-1), .slice none 0 0, .slice none 0 0] 25)).heap.size = w1.heap.size + 1 := by simp
    generalize w1.alloc (.cells #[.int .i64 (-1), .slice none 0 0, .slice none 0 0] 25) = w2 at *
    have hB : w.heap.size ≤ w1.heap.size := G1.out.size
    generalize w1.heap.size = B at *
    have H0 : Hid (LAx (fun k => k = B) B w2 (sl 0) (-1) 0 0) := ⟨none, 0, none, 0, hb, fun u _ => latv_free u⟩
    have HG2 := Lib.hid hg2
    have HB := Lib.hid hB
    have HS2 := Lib.hid hs2
    clear hb hg2 hB hs2 G1
    go_wp2_with fail
    go_loopg [7] K (fun gx s7 wr => ∃ j : Nat, j + gx = K ∧ s7 = .int .i64 (j : Int) ∧ LAx (fun k => k = B) B wr (sl j) (-1) j 0 ∧ Grow w wr)
    case atStart => exact ⟨0, by omega, rfl, H0.out, HG2.out⟩
    case round =>
      obtain ⟨j, hg, rfl, hl, hgr⟩ := hrel
      have HG := Lib.hid hg
      have HGR := Lib.hid hgr
      obtain ⟨A, c, A', c', hbx, hst⟩ := hl
      have HBX := Lib.hid hbx
      have HST := Lib.hid hst
      have hlt := hbx.lt
      clear hg hgr hbx hst H0
      have k0 := HBX.out.cell 0
      have k1 := HBX.out.cell 1
      have k2 := HBX.out.cell 2
      have f0 := HBX.out.frozenAll
      simp only [List.getElem?_cons_zero, List.getElem?_cons_succ] at k0 k1 k2
      by_cases hj : j < K
      · have hjz : (j : Int) < (K : Int) := by omega
        go_wp2_with (go_at_call 7; (with_reducible refine (m_share j (by omega) HST.out.latv).mono ?_); rintro e w3 ⟨A3, c3, A4, c4, rfl, hk, hg⟩; have HKP := Lib.hid hk; have HG3 := Lib.hid hg; clear hk hg k0 k1 k2 f0; have f0 := (HBX.out.grow HG3.out).frozenAll; have k0 := (HBX.out.grow HG3.out).cell 0; have k1 := (HBX.out.grow HG3.out).cell 1; have k2 := (HBX.out.grow HG3.out).cell 2; simp only [List.getElem?_cons_zero, List.getElem?_cons_succ] at k0 k1 k2)
        have HP := Lib.hid (LAx.put (HBX.out.grow HG3.out) (Stays.of HKP.out (M := fun k => k = B) fun k e => by omega) rfl)
        go_roundg (gk - 1)
        case measure => have := HG.out; omega
        case rel => exact ⟨j + 1, by have := HG.out; omega, by go_num, HP.out.1, (HGR.out.trans HG3.out).then HP.out.2 fun k h1 e => by have := HB.out; omega⟩
      · obtain rfl : j = K := by have := HG.out; omega
        clear hj HG
        go_upto_region 11 with (go_at_call 6; (with_reducible refine (m_lock j hK1 hK20 HST.out.latv).mono ?_); rintro e w3 ⟨A3, c3, A4, c4, rfl, hk, hg⟩; have HKP := Lib.hid hk; have HG3 := Lib.hid hg; clear hk hg k0 k1 k2 f0; have f0 := (HBX.out.grow HG3.out).frozenAll; have k0 := (HBX.out.grow HG3.out).cell 0; have k1 := (HBX.out.grow HG3.out).cell 1; have k2 := (HBX.out.grow HG3.out).cell 2; simp only [List.getElem?_cons_zero, List.getElem?_cons_succ] at k0 k1 k2)
        have hp := LAx.put (HBX.out.grow HG3.out) (Stays.of HKP.out (M := fun k => k = B) fun k e => by omega) rfl
        generalize ((w3.setCell ⟨B, 0, none⟩ (.int .i64 (-1))).setCell ⟨B, 1, none⟩ (.slice A3 j c3)).setCell ⟨B, 2, none⟩ (.slice A4 1 c4) = w4 at *
        have HG4 : Hid (Grow w w4) := (HGR.out.trans HG3.out).then hp.2 fun k h1 e => by have := HB.out; omega
        obtain ⟨A5, c5, A6, c6, hb4, hs4⟩ := hp.1
        have HB4 := Lib.hid hb4
        have HS4 := Lib.hid hs4
        have hlt4 := hb4.lt
        clear hp hb4 hs4 HKP HBX HST HG3 HGR f0 k0 k1 k2
        have k0 := HB4.out.cell 0
        have k1 := HB4.out.cell 1
        have k2 := HB4.out.cell 2
        simp only [List.getElem?_cons_zero, List.getElem?_cons_succ] at k0 k1 k2
        go_upto_region 12 with (go_at_call 7; (with_reducible refine (m_share31 j hK1 hK20 HS4.out.latv).mono ?_); rintro e w5 ⟨A7, c7, A8, c8, rfl, hk, hg⟩; have HKP := Lib.hid hk; have HG5 := Lib.hid hg; clear hk hg k0 k1 k2; have f0 := (HB4.out.grow HG5.out).frozenAll; have k0 := (HB4.out.grow HG5.out).cell 0; have k1 := (HB4.out.grow HG5.out).cell 1; have k2 := (HB4.out.grow HG5.out).cell 2; simp only [List.getElem?_cons_zero, List.getElem?_cons_succ] at k0 k1 k2)
        have hp := LAx.put (HB4.out.grow HG5.out) (Stays.of HKP.out (M := fun k => k = B) fun k e => by omega) rfl
        generalize ((w5.setCell ⟨B, 0, none⟩ (.int .i64 (-1))).setCell ⟨B, 1, none⟩ (.slice A7 j c7)).setCell ⟨B, 2, none⟩ (.slice A8 2 c8) = w6 at *
        have HG6 : Hid (Grow w w6) := (HG4.out.trans HG5.out).then hp.2 fun k h1 e => by have := HB.out; omega
        have HL6 := Lib.hid hp.1
        have hlt6 : B < w6.heap.size := by
          obtain ⟨_, _, _, _, h, _⟩ := hp.1
          exact h.lt
        clear hp HKP HB4 HS4 HG5 HG4 f0 k0 k1 k2 hlt4
        go_upto_block 2 with (fail)
        have hrow := row_false20 w6 38
        have hga : Grow w6 (w6.alloc (.cells #[Value.bool false, Value.bool false, Value.bool false, Value.bool false, Value.bool false, Value.bool false, Value.bool false, Value.bool false, Value.bool false, Value.bool false, Value.bool false, Value.bool false, Value.bool false, Value.bool false, Value.bool false, Value.bool false, Value.bool false, Value.bool false, Value.bool false, Value.bool false] 38)) := (Kept.refl _ _).alloc _
        generalize w6.alloc (.cells #[Value.bool false, Value.bool false, Value.bool false, Value.bool false, Value.bool false, Value.bool false, Value.bool false, Value.bool false, Value.bool false, Value.bool false, Value.bool false, Value.bool false, Value.bool false, Value.bool false, Value.bool false, Value.bool false, Value.bool false, Value.bool false, Value.bool false, Value.bool false] 38) = w7 at *
        have hne : rng j ≠ [] := fun e => by have := rng_len j; rw [e] at this; simp at this; omega
        have HL7 : Hid (LAx (fun k => k = B ∨ k = w6.heap.size) B w7 (lm (rng j)) (lm (rng j)).W (lm (rng j)).R.length (lm (rng j)).Q.length) :=
          lax_of ((HL6.out.more fun k h1 h2 => by omega).grow hga) (by rw [lm_some hne]) (by rw [lm_some hne]; exact (rng_len j).symm) (by rw [lm_some hne]; rfl)
        have HG7 : Hid (Grow w w7) := HG6.out.trans hga
        have HROW := Lib.hid hrow
        have HGD := Lib.hid (lm_good hK1 hK20)
        have hg6 : w.heap.size ≤ w6.heap.size := HG6.out.size
        have HGB := Lib.hid hg6
        have hgB : B ≠ w6.heap.size := by omega
        have HGNE := Lib.hid hgB
        have HRL : Hid ((rng j).length = j) := rng_len j
        clear hrow hga HG6 HL6 hlt6 hg6 hgB hne
        generalize w6.heap.size = g at *
        obtain ⟨BV, hBV⟩ : ∃ BV : Int, IntKind.i64.wrap (20 + (len1 : Int)) = BV := ⟨_, rfl⟩
        have hBVb : BV ≤ 9223372036854775807 := by
          rw [← hBV, IntKind.wrap_i64]; omega
        go_wp2_with fail
        go_loopg [11, 13] BV.toNat (fun gx s11 s13 wr => ∃ (i : Nat) (R : List Int) (G : Nat → Bool), i + gx = BV.toNat ∧ s13 = .int .i64 (i : Int) ∧ s11 = .int .i64 ((R.length : Nat) : Int) ∧ LAx (fun k => k = B ∨ k = g) B wr (lm R) (lm R).W (lm R).R.length (lm R).Q.length ∧ Row wr g 20 (fun q => .bool (G q)) ∧ Gone j R G ∧ LatM.Good (lm R) ∧ Grow w wr)
        case atStart => exact ⟨0, rng j, fun _ => false, by omega, rfl, by rw [HRL.out], HL7.out, HROW.out, gone_zero j, HGD.out, HG7.out⟩
        case round =>
          obtain ⟨i, R, G, hg, rfl, rfl, hl, hrow, hgone, hgood, hgr⟩ := hrel
          have HG := Lib.hid hg
          have HROW2 := Lib.hid hrow
          have HGONE := Lib.hid hgone
          have HGOOD := Lib.hid hgood
          have HGR := Lib.hid hgr
          have HL := Lib.hid hl
          clear hg hrow hgone hgood hgr hl HL7 HROW HGD HG7 HRL
          by_cases hR : R = []
          · subst hR
            have hl : LAx (fun k => k = B ∨ k = g) B wr (lm []) 30 0 1 := HL.out
            obtain ⟨A, c, A', c', hbx, hst⟩ := hl
            have HBX := Lib.hid hbx
            have HST := Lib.hid hst
            have k0 := hbx.cell 0
            have k1 := hbx.cell 1
            have k2 := hbx.cell 2
            simp only [List.getElem?_cons_zero, List.getElem?_cons_succ] at k0 k1 k2
            clear hbx hst
            simp only [List.length_nil, Int.natCast_zero, Int.cast_ofNat_Int]
            go_upto_region 34 with (go_at_call 8; (with_reducible refine (m_free30 HST.out.latv HGOOD.out).mono ?_); rintro e w3 ⟨A3, c3, A4, c4, D, d, rfl, hk, hs, _, hg⟩; have HKP := Lib.hid hk; have HS3 := Lib.hid hs; have HG3 := Lib.hid hg; clear hk hs hg k0 k1 k2)
            have hx4 := Blk.new w3 25 [.int .i64 (-1), .slice A3 1 c3, .slice A4 0 c4]
            have hg4 : Grow w3 (w3.alloc (.cells #[.int .i64 (-1), .slice A3 1 c3, .slice A4 0 c4] 25)) := (Kept.refl _ _).alloc _
            generalize w3.alloc (.cells #[.int .i64 (-1), .slice A3 1 c3, .slice A4 0 c4] 25) = w4 at *
            generalize w3.heap.size = x at *
            have HX4 := Lib.hid hx4
            have HG4 := Lib.hid hg4
            have HB4 := Lib.hid ((HBX.out.grow HG3.out).grow hg4)
            have HV := Lib.hid ((HST.out.latv.grow HG3.out).grow hg4)
            have HW := Lib.hid (HKP.out.latv.grow hg4)
            have HH30 := Lib.hid fun (w' : World) (hk : Grow w4 w') => has_any (HV.out.grow hk) 30 (by decide)
            have HH31 := Lib.hid fun (w' : World) (hk : Grow w4 w') => has_any (HW.out.grow hk) 31 (by decide)
            rw [show (lm []).has 30 = true from rfl] at HH30
            rw [show lx.has 31 = true from rfl] at HH31
            obtain ⟨db, dw, rfl, _, hdc⟩ := (HS3.out (fun _ => False) w3 (Kept.refl _ _) fun _ _ => id).at_ (by decide)
            have HDC : Hid (w4.cell? ⟨db, dw, none⟩ = some (.int .i64 31)) := hg4.cellN (hdc 0 (by decide)) id
            clear hx4 hg4 hdc
            go_wp2_with (first
              | (go_at_call 10; (with_reducible refine (told_any _).mono ?_); rintro e w5 ⟨rfl, hge⟩; have G5 := Lib.hid hge; clear hge; have k0 := (HB4.out.grow G5.out).cell 0; have k1 := (HB4.out.grow G5.out).cell 1; have k2 := (HB4.out.grow G5.out).cell 2; simp only [List.getElem?_cons_zero, List.getElem?_cons_succ] at k0 k1 k2)
              | (go_at_call 9; (with_reducible refine (HH30.out _ G5.out).mono ?_); rintro e w6 ⟨rfl, hge⟩; have G6 := Lib.hid (G5.out.trans hge); clear hge k0 k1 k2; have dc := G6.out.cellN HDC.out id; have k0 := (HX4.out.grow G6.out).cell 0; have k1 := (HX4.out.grow G6.out).cell 1; have k2 := (HX4.out.grow G6.out).cell 2; simp only [List.getElem?_cons_zero, List.getElem?_cons_succ] at k0 k1 k2)
              | (go_at_call 9; (with_reducible refine (HH31.out _ G6.out).mono ?_); rintro e w7 ⟨rfl, hge⟩; have G7 := Lib.hid (G6.out.trans hge); clear hge))
            go_ret
            exact ⟨rfl, Grow.below (((HGR.out.trans HG3.out).trans HG4.out).trans G7.out)⟩
          · have hl := lax_some hR HL.out
            have hpos : 0 < R.length := by
              cases R with
              | nil => exact absurd rfl hR
              | cons _ _ => simp
            have hposz : (0 : Int) < (R.length : Int) := by omega
            have hRb : R.length ≤ 64 := by
              have := HGOOD.out.pre.lenR
              rwa [show (lm R).R = R by rw [lm_some hR]] at this
            have hRz : (R.length : Int) ≤ 64 := by omega
            obtain ⟨A, c, A', c', hbx, hst⟩ := hl
            have HBX := Lib.hid hbx
            have HST := Lib.hid hst
            clear hbx hst
            by_cases hi : (i : Int) < BV
            · have hinat : i < BV.toNat := by omega
              go_upto_if 71 with (fail)
              go_cut [14] from 66 to 78 (fun s wx => ∃ T : Nat, T < 20 ∧ s = .int .i64 (T : Int) ∧ wr = wx)
              case first =>
                by_cases hil : i < len1
                · have hilz : (i : Int) < (len1 : Int) := by omega
                  obtain ⟨b, o, rfl, _, hc⟩ := HS.out.at_ (by omega)
                  have r1 := HGR.out.cellN (hc i hil) id
                  obtain ⟨T, hT, hT20⟩ := tmod_nat (zs.getD i 0) 20 (by omega)
                  simp only [Int.cast_ofNat_Int] at hT
                  have hTz : (T : Int) < 20 := by omega
                  clear hc
                  generalize zs.getD i 0 = y at *
                  go_wp2_with fail
                  go_meet
                  exact ⟨T, hT20, rfl, rfl⟩
                · have hilz : ¬ (i : Int) < (len1 : Int) := by omega
                  go_wp2_with fail
                  go_meet
                  exact ⟨i % 20, Nat.mod_lt _ (by omega), by congr 1, rfl⟩
              case rest =>
                obtain ⟨T, hT, rfl, rfl⟩ := hcut
                have hTz : (T : Int) < 20 := by omega
                have cg := HROW2.out.cell (i := T) hT
                by_cases hTj : T < j
                · have hTjz : (T : Int) < (j : Int) := by omega
                  cases hGT : G T with
                  | true =>
                    rw [hGT] at cg
                    go_wp2_with fail
                    go_roundg (gk - 1)
                    case measure => have := HG.out; omega
                    case rel => exact ⟨i + 1, R, G, by have := HG.out; omega, by go_num, rfl, HL.out, HROW2.out, HGONE.out, HGOOD.out, HGR.out⟩
                  | false =>
                    rw [hGT] at cg
                    have hTm : (T : Int) ∈ R := by
                      cases (inferInstance : Decidable ((T : Int) ∈ R)) with
                      | isTrue h => exact h
                      | isFalse h =>
                        have := (HGONE.out.1 T hTj).2 h
                        rw [hGT] at this
                        cases this
                    have k0 := HBX.out.cell 0
                    have k1 := HBX.out.cell 1
                    have k2 := HBX.out.cell 2
                    simp only [List.getElem?_cons_zero, List.getElem?_cons_succ] at k0 k1 k2
                    by_cases hr : rem R (T : Int) = []
                    · have HX := Lib.hid (lm_free HGOOD.out hTm).2.1
                      have HXL := Lib.hid (lm_free HGOOD.out hTm).2.2
                      go_upto_region 24 with (go_at_call 8; (with_reducible refine (m_free_last HST.out.latv HGOOD.out hTm hr).mono ?_); rintro e w3 ⟨A3, c3, A4, c4, D, d, rfl, hk, _, _, hg⟩; have HKP := Lib.hid hk; have HG3 := Lib.hid hg; clear hk hg k0 k1 k2)
                      have hx4 := Blk.new w3 25 [.int .i64 (30), .slice A3 0 c3, .slice A4 1 c4]
                      have hg4 : Grow w3 (w3.alloc (.cells #[.int .i64 (30), .slice A3 0 c3, .slice A4 1 c4] 25)) := (Kept.refl _ _).alloc _
                      generalize w3.alloc (.cells #[.int .i64 (30), .slice A3 0 c3, .slice A4 1 c4] 25) = w4 at *
                      have hxl : g < w3.heap.size := Nat.lt_of_lt_of_le HROW2.out.lt HG3.out.size
                      have hxb : B < w3.heap.size := Nat.lt_of_lt_of_le HBX.out.lt HG3.out.size
                      generalize w3.heap.size = x at *
                      have r4 := HROW2.out.kept (HG3.out.trans hg4) id
                      have c4' := r4.cell (i := T) hT
                      have f4 := r4.frozen T
                      go_upto_region 26 with (fail)
                      have r5 := r4.set T (.bool true)
                      have k5 := kept_set w4 g T (.bool true)
                      have x5 := hx4.other (p := ⟨g, T, none⟩) (by show x ≠ g; omega) (.bool true)
                      have b5 := ((HBX.out.grow HG3.out).grow hg4).other (p := ⟨g, T, none⟩) (fun e => HGNE.out e) (.bool true)
                      have s5 : Stays (fun k => k = B ∨ k = g) (w4.setCell ⟨g, T, none⟩ (.bool true)) (lm (rem R (T : Int))) (.agg #[.int .i64 (30), .slice A3 0 c3, .slice A4 1 c4]) :=
                        ((Stays.of HKP.out (M := fun k => k = B ∨ k = g) fun k e => by have h1 := HBX.out.lt; have h2 := HROW2.out.lt; omega).grow hg4).kept (k5.mono fun k _ e => .inr e)
                      have g5 : Grow w (w4.setCell ⟨g, T, none⟩ (.bool true)) := ((HGR.out.trans HG3.out).trans hg4).then k5 fun k h1 e => by have := HGB.out; omega
                      clear c4' f4 r4 hx4
                      generalize w4.setCell ⟨g, T, none⟩ (.bool true) = w5 at *
                      have HR5 := Lib.hid r5
                      have HB5 := Lib.hid b5
                      have HS5 := Lib.hid s5
                      have HG5 := Lib.hid g5
                      have k0 := x5.cell 0
                      have k1 := x5.cell 1
                      have k2 := x5.cell 2
                      simp only [List.getElem?_cons_zero, List.getElem?_cons_succ] at k0 k1 k2
                      have j0 := b5.cell 0
                      have j1 := b5.cell 1
                      have j2 := b5.cell 2
                      have f5 := b5.frozenAll
                      simp only [List.getElem?_cons_zero, List.getElem?_cons_succ] at j0 j1 j2
                      have HP := Lib.hid (LAx.put b5 s5 (.inl rfl))
                      clear r5 b5 s5 g5 x5 k5 hg4 HKP
                      have hl1 : (R.length : Int) - 1 = 0 := by have := HXL.out; rw [hr] at this; simp at this; omega
                      by_cases h200 : (200 : Int) < (i : Int)
                      · go_wp2_with (go_at_call 10; (with_reducible refine (told_any _).mono ?_); rintro e wt ⟨rfl, hge⟩; have HGE := Lib.hid hge; clear hge)
                        go_ret
                        exact ⟨rfl, Grow.below ((HG5.out.then HP.out.2 fun k h1 e => by have := HB.out; omega).trans HGE.out)⟩
                      · go_wp2_with fail
                        go_roundg (gk - 1)
                        case measure => have := HG.out; omega
                        case rel => exact ⟨i + 1, rem R (T : Int), fun q => if q = T then true else G q, by have := HG.out; omega, by go_num, (by rw [hr]; rfl), lax_of HP.out.1 (by rw [hr]; rfl) (by rw [hr]; rfl) (by rw [hr]; rfl), (HR5.out.kept HP.out.2 fun e => HGNE.out e.symm).congr fun q _ => by
                            dsimp only
                            by_cases e : q = T
                            · rw [if_pos e, if_pos e]
                            · rw [if_neg e, if_neg e], gone_step HGONE.out, HX.out, HG5.out.then HP.out.2 fun k h1 e => by have := HB.out; omega⟩
                    · have HX := Lib.hid (lm_free HGOOD.out hTm).2.1
                      have HXL := Lib.hid (lm_free HGOOD.out hTm).2.2
                      go_upto_region 24 with (go_at_call 8; (with_reducible refine (m_free_more HST.out.latv HGOOD.out hTm hr).mono ?_); rintro e w3 ⟨A3, c3, A4, c4, D, d, rfl, hk, _, _, hg⟩; have HKP := Lib.hid hk; have HG3 := Lib.hid hg; clear hk hg k0 k1 k2)
                      have hx4 := Blk.new w3 25 [.int .i64 (-1), .slice A3 (rem R (T : Int)).length c3, .slice A4 2 c4]
                      have hg4 : Grow w3 (w3.alloc (.cells #[.int .i64 (-1), .slice A3 (rem R (T : Int)).length c3, .slice A4 2 c4] 25)) := (Kept.refl _ _).alloc _
                      generalize w3.alloc (.cells #[.int .i64 (-1), .slice A3 (rem R (T : Int)).length c3, .slice A4 2 c4] 25) = w4 at *
                      have hxl : g < w3.heap.size := Nat.lt_of_lt_of_le HROW2.out.lt HG3.out.size
                      have hxb : B < w3.heap.size := Nat.lt_of_lt_of_le HBX.out.lt HG3.out.size
                      generalize w3.heap.size = x at *
                      have r4 := HROW2.out.kept (HG3.out.trans hg4) id
                      have c4' := r4.cell (i := T) hT
                      have f4 := r4.frozen T
                      go_upto_region 26 with (fail)
                      have r5 := r4.set T (.bool true)
                      have k5 := kept_set w4 g T (.bool true)
                      have x5 := hx4.other (p := ⟨g, T, none⟩) (by show x ≠ g; omega) (.bool true)
                      have b5 := ((HBX.out.grow HG3.out).grow hg4).other (p := ⟨g, T, none⟩) (fun e => HGNE.out e) (.bool true)
                      have s5 : Stays (fun k => k = B ∨ k = g) (w4.setCell ⟨g, T, none⟩ (.bool true)) (lm (rem R (T : Int))) (.agg #[.int .i64 (-1), .slice A3 (rem R (T : Int)).length c3, .slice A4 2 c4]) :=
                        ((Stays.of HKP.out (M := fun k => k = B ∨ k = g) fun k e => by have h1 := HBX.out.lt; have h2 := HROW2.out.lt; omega).grow hg4).kept (k5.mono fun k _ e => .inr e)
                      have g5 : Grow w (w4.setCell ⟨g, T, none⟩ (.bool true)) := ((HGR.out.trans HG3.out).trans hg4).then k5 fun k h1 e => by have := HGB.out; omega
                      clear c4' f4 r4 hx4
                      generalize w4.setCell ⟨g, T, none⟩ (.bool true) = w5 at *
                      have HR5 := Lib.hid r5
                      have HB5 := Lib.hid b5
                      have HS5 := Lib.hid s5
                      have HG5 := Lib.hid g5
                      have k0 := x5.cell 0
                      have k1 := x5.cell 1
                      have k2 := x5.cell 2
                      simp only [List.getElem?_cons_zero, List.getElem?_cons_succ] at k0 k1 k2
                      have j0 := b5.cell 0
                      have j1 := b5.cell 1
                      have j2 := b5.cell 2
                      have f5 := b5.frozenAll
                      simp only [List.getElem?_cons_zero, List.getElem?_cons_succ] at j0 j1 j2
                      have HP := Lib.hid (LAx.put b5 s5 (.inl rfl))
                      clear r5 b5 s5 g5 x5 k5 hg4 HKP
                      have hl1 : ((R.length : Int) - 1 == 0) = false := by
                        have h1 := HXL.out
                        have h2 : 0 < (rem R (T : Int)).length := by
                          cases hh : rem R (T : Int) with
                          | nil => exact absurd hh hr
                          | cons _ _ => simp
                        exact beq_eq_false_iff_ne.2 (by omega)
                      by_cases h200 : (200 : Int) < (i : Int)
                      · go_wp2_with (go_at_call 10; (with_reducible refine (told_any _).mono ?_); rintro e wt ⟨rfl, hge⟩; have HGE := Lib.hid hge; clear hge)
                        go_ret
                        exact ⟨rfl, Grow.below ((HG5.out.then HP.out.2 fun k h1 e => by have := HB.out; omega).trans HGE.out)⟩
                      · go_wp2_with fail
                        go_roundg (gk - 1)
                        case measure => have := HG.out; omega
                        case rel => exact ⟨i + 1, rem R (T : Int), fun q => if q = T then true else G q, by have := HG.out; omega, by go_num, (by have := HXL.out; congr 1; omega), lax_of HP.out.1 (by rw [lm_some hr]) (by rw [lm_some hr]) (by rw [lm_some hr]; rfl), (HR5.out.kept HP.out.2 fun e => HGNE.out e.symm).congr fun q _ => by
                            dsimp only
                            by_cases e : q = T
                            · rw [if_pos e, if_pos e]
                            · rw [if_neg e, if_neg e], gone_step HGONE.out, HX.out, HG5.out.then HP.out.2 fun k h1 e => by have := HB.out; omega⟩
                · have hTjz : ¬ (T : Int) < (j : Int) := by omega
                  go_wp2_with fail
                  go_roundg (gk - 1)
                  case measure => have := HG.out; omega
                  case rel => exact ⟨i + 1, R, G, by have := HG.out; omega, by go_num, rfl, HL.out, HROW2.out, HGONE.out, HGOOD.out, HGR.out⟩
            · go_wp2_with (go_at_call 10; (with_reducible refine (told_any _).mono ?_); rintro e wt ⟨rfl, hge⟩; have HGE := Lib.hid hge; clear hge)
              go_ret
              exact ⟨rfl, Grow.below (HGR.out.trans HGE.out)⟩

/-! ### THE ROW's STEP: WRITTEN OUT: LEAVE IT -/
set_option maxRecDepth 100000 in
theorem lifted (os : Os) (started : os.Started) (H : Type) (enc : TypeId × Value → H) :
    ReturnsInHanded {} Try.checked os 4 .any (Rows.latchManySpec.pre6 enc Try.prog Try.f4 Rows.latchManyRow.domain false) (Rows.latchManySpec.post enc Try.prog Try.f4 false true false false) := by
  refine returnsInHanded_of_change (C := Try.checked) own started (by kernel_rfl) Try.func4
    (ChangeSpec.witness6 (enc := enc) (C := Try.checked) false ⟨#[], #[.int .i64 0, .slice none 0 0], []⟩ 8 (by kernel_rfl) (by kernel_rfl) (by kernel_rfl) (by kernel_rfl)) ?_
  intro W base args ds gs before hval0 hW hcnd _
  have hval : ∀ (j : Nat) t v, Try.f4.params[j]? = some t → args[j]? = some v → Value.okWide Try.prog W .any base t v := hval0
  have hW' := hW
  obtain ⟨p, q, hA0, hV, rfl, hfz, hnd⟩ := hW
  have hA : DataW.TrodAll enc Try.prog W 0 (fun _ => true) true Try.f4.params.toList args.toList ds p := hA0
  rw [Try.params4] at hA hval
  obtain ⟨v0, vs0, d0, ds0, p0, q0, hargs, rfl, rfl, h0, r0⟩ := trodAll_cons hA
  obtain ⟨v1, vs1, d1, ds1, p1, q1, rfl, rfl, rfl, h1, r1⟩ := trodAll_cons r0
  obtain ⟨rfl, rfl, rfl⟩ := trodAll_nil r1
  obtain rfl : args = #[v0, v1] := by cases args; simp_all
  obtain ⟨rfl, rfl⟩ := trodVars_none hV
  obtain ⟨a0, rfl, rfl, rfl, w0⟩ := open_int Try.underlying3 (hval 0 3 v0 rfl rfl) h0
  obtain ⟨a1, len1, cap1, rfl⟩ := okWide_slice Try.underlying23 (hval 1 23 v1 rfl rfl)
  have k1 := h1
  have lt1 : ∀ x ∈ p1, x.block < W.heap.size := by obtain ⟨m, hm⟩ := k1; exact DataW.trod_lt m _ _ _ hm
  obtain ⟨z1, w1⟩ : ∃ zs, IsRow .i64 W a1 len1 cap1 zs := by
    obtain ⟨fuel, hf⟩ := h1
    rcases open_ints Try.underlying23 Try.underlying3 (by kernel_rfl) hf with ⟨hcs, _⟩ | ⟨x, l, c, zs, hcs, _, hl, hm, hz, _, hcell, hwz⟩
    · simp [Value.cells] at hcs
      obtain ⟨rfl, rfl, rfl⟩ := hcs
      exact ⟨[], .inl ⟨rfl, rfl, rfl, rfl⟩⟩
    · simp [Value.cells] at hcs
      obtain ⟨rfl, rfl, rfl⟩ := hcs
      exact ⟨zs, .inr ⟨_, rfl, hl, hm, by simpa using hz, hcell, hwz⟩⟩
  clear hA0 hval0
  refine (walk a0 a1 len1 cap1 z1 W w0 w1).mono fun e W' ⟨he, bel⟩ => ?_
  subst he
  exact ⟨_, rfl, _, _, _, [], _, [], hW', trodAll_mk1 (shut_bool Try.underlying4 _), (trodAll_cons_mk (shut_int Try.underlying3 w0) (trodAll_cons_mk (Below.trod laidOut (by kernel_rfl) (of_decide_eq_true (by kernel_rfl)) k1 bel lt1) trodAll_mk0)), rfl, bel.frame _, fun h => by cases h⟩

theorem over : Rows.latchManyRow.holds Try.pinned (OpenSpec.ofChange Rows.latchManySpec) :=
  OpenClaim.holds_of_wide 4 Try.f4 rfl rfl rfl rfl rfl rfl rfl ⟨rfl, rfl, rfl, rfl, rfl⟩ rfl rfl rfl rfl rfl (by kernel_rfl) Try.func4 (by kernel_rfl)
    (of_decide_eq_true (by kernel_rfl)) (by unfold Func.isWrapper; first | (rw [if_pos (by decide +kernel)]; kernel_rfl) | (rw [if_neg (by decide +kernel)]; exact ⟨rfl, rfl⟩))
    (fun os started H enc _ => lifted os started H enc)

/-- ████ THE STATEMENT ████ -/
theorem proved : Rows.LatchManySaid := over
#print axioms proved
end Go.Proofs.Ytpdmncdbimdfaaa.latchMany

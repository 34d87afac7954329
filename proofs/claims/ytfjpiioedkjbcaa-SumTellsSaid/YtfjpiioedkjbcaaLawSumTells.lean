/-
  For every input the call of lavabolaw1.SumTells returns true and leaves its arguments as they were; no condition.
-/
import Derived.Test.YtfjpiioedkjbcaaTold1
import Derived.Test.YtfjpiioedkjbcaaRows
import Derived.WalkKit
import Derived.ProofKit
import Derived.OpenShut
import Derived.ShutString
import Derived.ChangeOld
import Derived.Below
namespace Go.Proofs.Ytfjpiioedkjbcaa.sumTells
open Go.ChangeShapes Go.WideShapes Go.ChangeAt Go.RowKit
open Go.ChangeMaps (open_string shut_string)
open Go.Proofs.Ytfjpiioedkjbcaa.SumM Go.Proofs.Ytfjpiioedkjbcaa.Mem Go.Proofs.Ytfjpiioedkjbcaa.SumC Go.Proofs.Ytfjpiioedkjbcaa.Told1
open Go.Sort (grow)
set_option linter.unusedVariables false

theorem own : ownKnob Try.prog.godebug = none := by kernel_rfl
theorem laidOut : laidOutB Try.prog = true := by kernel_rfl

/-- WHAT THE WALK IS TOLD OF A SLICE OF INTEGERS THAT CAME IN: it is nil; or it leads to a row of 'cap' cells, the numbers 'zs' (the first 'len' are its elements, the rest its spare room), each fitting its kind. -/
def IsRow (k : IntKind) (w : World) (a : Option Addr) (len cap : Nat) (zs : List Int) : Prop :=
  (a = none ∧ len = 0 ∧ cap = 0 ∧ zs = []) ∨
  ∃ x, a = some x ∧ len ≤ cap ∧ cap ≤ maxLen ∧ zs.length = cap ∧ (∀ i, i < zs.length → w.cell? (x.add i) = some (.int k (zs.getD i 0))) ∧ ∀ n ∈ zs, (Lit.int k n).wf = true

theorem infoU8 : (Try.prog.info? 5).map (fun i => (i.zero, i.size, i.bytes)) = some (some (.int .u8 0), 1, 1) := by kernel_rfl

theorem stored_facts {w w2 : World} {g cap n K : Nat} {zs : List Int} (hl : zs.length = n) (hK : K < n)
    (hown : w2.ownsRow w.heap.size 5 1 (.slice (some ⟨g, 0, none⟩) n cap) n (zs.map (Value.int .u8)))
    (hat : (Value.slice (some ⟨w.heap.size, 0, none⟩) 0 0).ownBlock = some g ∨ g = (w.alloc (.cells #[] 5)).heap.size) :
    w.heap.size ≤ g ∧ w2.cell? ⟨g, K, none⟩ = some (.int .u8 (zs.getD K 0)) ∧ ∀ j, w2.frozen? ⟨g, j, none⟩ = false := by
  refine ⟨?_, ?_, fun j => hown.frozenAt j⟩
  · rcases hat with h | h
    · simp [Value.ownBlock] at h; omega
    · simp at h; omega
  · rw [hown.cellAt K (by omega)]
    simp [List.getD_eq_getElem?_getD, List.getElem?_eq_getElem (show K < zs.length by omega)]

/-! ### STEP 1: THE WALK: the Go text returns true, AND WRITES NOTHING THAT WAS THERE: 'Below w.heap.size w w'' (Derived/Below.lean: '.refl', '.alloc', '.drew', '.setCell' at a new block, '.trans'). Open each 'IsRow' by 'rcases' AHEAD of 'go_enter'; part every test ahead of the walk. -/
theorem walk (a0 : Option Addr) (len0 cap0 : Nat) (z0 : List Int) (a1 : Int) (a2 : Int) (w : World) (w0 : IsRow .u8 w a0 len0 cap0 z0) (w1 : (Lit.int .i64 a1).wf = true) (w2 : (Lit.int .u8 a2).wf = true) :
    Calls Try.prog 5 #[.slice a0 len0 cap0, .int .i64 a1, .int .u8 a2] w fun e w' => e = .returned (.bool true) ∧ Below w.heap.size w w' := by
  obtain ⟨hs, hle, hcap, hwf⟩ := Sl.of_isRow w0
  have hz : Bytes (z0.take len0) := fun c hc => by have := bounds_u8 (hwf c hc); exact ⟨by omega, by omega⟩
  clear w0 hwf
  generalize z0.take len0 = zs at hs hz
  have k1 := bounds_i64 w1
  have k2 := bounds_u8 w2
  have u2 : U8 a2 := ⟨by omega, by omega⟩
  by_cases h1 : len0 < 1
  · have h1' : (len0 : Int) < 1 := by omega
    go_enter Try.func5, Try.ntmps5
    go_wp2_with (go_at_call 8; (with_reducible refine (told_any _).mono ?_); rintro e w' ⟨rfl, hb⟩)
    go_ret
    exact ⟨rfl, hb⟩
  have h1' : (1 : Int) ≤ (len0 : Int) := by omega
  by_cases h3 : 300 < len0
  · have h3' : (300 : Int) < (len0 : Int) := by omega
    go_enter Try.func5, Try.ntmps5
    go_wp2_with (go_at_call 8; (with_reducible refine (told_any _).mono ?_); rintro e w' ⟨rfl, hb⟩)
    go_ret
    exact ⟨rfl, hb⟩
  · have h3' : (len0 : Int) ≤ 300 := by omega
    have hn0 : len0 ≤ maxLen := by unfold maxLen; omega
    have hu := wrap_u64_nonneg a1
    obtain ⟨K, hK⟩ : ∃ K : Nat, (IntKind.u64.wrap a1).tmod (len0 : Int) = (K : Int) := Int.eq_ofNat_of_zero_le (by rw [IntWalk.rem_in _ _ hu]; exact Int.emod_nonneg _ (by omega))
    have hKl : (K : Int) < (len0 : Int) := by
      have := Int.emod_lt_of_pos (IntKind.u64.wrap a1) (show (0 : Int) < (len0 : Int) by omega)
      rw [IntWalk.rem_in _ _ hu] at hK
      omega
    have hK0 : (0 : Int) ≤ (K : Int) := by omega
    clear hu
    obtain ⟨b, off, rfl, hb, hcell⟩ := hs.at_ (by omega)
    have HC := Lib.hid hcell
    clear hcell
    obtain ⟨i0, hi0, hz0, hz1, hz2⟩ := info_parts infoU8
    have hown0 : (w.alloc (.cells #[] 5)).ownsRow w.heap.size 5 1 (.slice (some ⟨w.heap.size, 0, none⟩) 0 0) 0 [] := World.ownsRow_lit w #[] 0 (Nat.le_refl _) (Nat.zero_le _) rfl
    have hbel0 : Below w.heap.size w (w.alloc (.cells #[] 5)) := (Below.refl _ _).alloc (Nat.le_refl _) _
    have hl0 : (zs.map (Value.int .u8)).length = len0 * 1 := by rw [List.length_map, hs.len, Nat.mul_one]
    have hnews : ∀ j u, (zs.map (Value.int .u8))[j]? = some u → (w.alloc (.cells #[] 5)).cell? ((⟨b, off, none⟩ : Addr).add j) = some u := by
      intro j u hu
      have hj : j < zs.length := by
        rcases Nat.lt_or_ge j zs.length with h | h
        · exact h
        · rw [List.getElem?_eq_none (by simpa using h)] at hu; cases hu
      have e : (⟨b, off, none⟩ : Addr).add j = ⟨b, off + j, none⟩ := by unfold Addr.add; split <;> simp_all
      rw [e, hbel0.cell (by exact hb), HC.out j (by have := hs.len; omega), ← hu]
      simp [List.getD_eq_getElem?_getD, List.getElem?_eq_getElem hj]
    have HN := Lib.hid hnews
    have HL := Lib.hid hl0
    have HO := Lib.hid hown0
    have HB := Lib.hid hbel0
    clear hnews hl0 hown0 hbel0
    have hpos : 0 < len0 := by omega
    go_enter Try.func5, Try.ntmps5
    go_wp2_with (at_builtin; refine wpList_append_lies _ rfl (.tmp 25) (.tmp 26) 22 rfl w.heap.size 5 i0 (.int .u8 0) 1 1 Try.underlying22 hi0 hz0 hz1 hz2 rfl (by omega) (.slice (some ⟨w.heap.size, 0, none⟩) 0 0) 0 [] rfl HO.out ⟨b, off, none⟩ len0 cap0 (zs.map (Value.int .u8)) rfl HL.out HN.out (ints_oneCell _ _) hpos (by omega) (by omega) HB.out.size _ rfl ?_; intro g cap w2 hown hgrow hat hlt; simp only [Nat.zero_add, List.nil_append] at hown ⊢; obtain ⟨hg0, hc, hf⟩ := stored_facts (K := K) hs.len (by omega) hown hat; have HOW := Lib.hid hown; have HGR := Lib.hid hgrow; clear hown hgrow hat)
    have hbW : Below w.heap.size w (w2.setCell ⟨g, K, none⟩ (.int .u8 a2)) := (HB.out.grown HGR.out HB.out.size (fun k hk => by simp [Value.ownBlock] at hk; omega)).setCell hg0 _
    have hst := (HOW.out.stored K (.int .u8 a2)).1
    rw [← List.map_set] at hst
    have hsx := Sl.of_own hst
    have hsb := (hs.below hbW).more hbW.size
    have hzx : Bytes (zs.set K a2) := fun c hc => by
      rcases List.mem_or_eq_of_mem_set hc with h | h
      · exact hz c h
      · rw [h]; exact u2
    have hE : (ofI (zs.set K a2) == ofI zs) = (a2 == zs.getD K 0) := by
      rw [Bool.eq_iff_iff]; simpa using ofI_set hz u2 (by have := hs.len; omega)
    have hcb : (w2.setCell ⟨g, K, none⟩ (.int .u8 a2)).cell? ⟨b, off + K, none⟩ = some (.int .u8 (zs.getD K 0)) := by
      rw [hbW.cell (by exact hb)]; exact HC.out K (by omega)
    clear HOW HGR HB HN HL HO hst hc hf
    generalize w2.setCell ⟨g, K, none⟩ (.int .u8 a2) = W at hbW hsx hsb hcb ⊢
    clear hs w1
    generalize zs.set K a2 = xs at hsx hzx hE
    have q0 : ∀ d os, _ := quiet_below (w := W) fun w1 _ => told_any w1
    have q1 : ∀ d os, _ := quiet_same (w := W) fun w1 h1 => of_any _ _ cap _ _ w1 hzx hn0 (hsx.below h1)
    have q2 : ∀ d os, _ := quiet_same (w := W) fun w1 h1 => of_any _ _ cap0 _ _ w1 hz hn0 (hsb.below h1)
    have q3 := cell_regrown hcb
    have HSB := Lib.hid hsb
    clear hcb hsx hsb hz hzx HC
    generalize zs.getD K 0 = y at hE q3
    refine wp_region_quiet_below (by kernel_rfl) (by kernel_rfl) ?_
    repeat (go_big_quiet_step (first | (with_reducible exact q0 _ _) | (with_reducible exact q1 _ _) | (with_reducible exact q2 _ _)))
    refine wpQuiet_nil ?_
    intro _ hw'
    obtain ⟨⟨dq, osq⟩, hw''⟩ := hw'
    subst hw''
    go_wp2
    all_goals (go_ret; exact ⟨rfl, hbW.trans ((below_regrown W dq osq).mono hbW.size)⟩)

/-! ### THE ROW's STEP: WRITTEN OUT: LEAVE IT -/
set_option maxRecDepth 100000 in
theorem lifted (os : Os) (started : os.Started) (H : Type) (enc : TypeId × Value → H) :
    ReturnsInHanded {} Try.checked os 5 .any (Rows.sumTellsSpec.pre6 enc Try.prog Try.f5 Rows.sumTellsRow.domain false) (Rows.sumTellsSpec.post enc Try.prog Try.f5 false true false false) := by
  refine returnsInHanded_of_change (C := Try.checked) own started (by kernel_rfl) Try.func5
    (ChangeSpec.witness6 (enc := enc) (C := Try.checked) false ⟨#[], #[.slice none 0 0, .int .i64 0, .int .u8 0], []⟩ 8 (by kernel_rfl) (by kernel_rfl) (by kernel_rfl) (by kernel_rfl)) ?_
  intro W base args ds gs before hval0 hW hcnd _
  have hval : ∀ (j : Nat) t v, Try.f5.params[j]? = some t → args[j]? = some v → Value.okWide Try.prog W .any base t v := hval0
  have hW' := hW
  obtain ⟨p, q, hA0, hV, rfl, hfz, hnd⟩ := hW
  have hA : DataW.TrodAll enc Try.prog W 0 (fun _ => true) true Try.f5.params.toList args.toList ds p := hA0
  rw [Try.params5] at hA hval
  obtain ⟨v0, vs0, d0, ds0, p0, q0, hargs, rfl, rfl, h0, r0⟩ := trodAll_cons hA
  obtain ⟨v1, vs1, d1, ds1, p1, q1, rfl, rfl, rfl, h1, r1⟩ := trodAll_cons r0
  obtain ⟨v2, vs2, d2, ds2, p2, q2, rfl, rfl, rfl, h2, r2⟩ := trodAll_cons r1
  obtain ⟨rfl, rfl, rfl⟩ := trodAll_nil r2
  obtain rfl : args = #[v0, v1, v2] := by cases args; simp_all
  obtain ⟨rfl, rfl⟩ := trodVars_none hV
  obtain ⟨a0, len0, cap0, rfl⟩ := okWide_slice Try.underlying22 (hval 0 22 v0 rfl rfl)
  have k0 := h0
  have lt0 : ∀ x ∈ p0, x.block < W.heap.size := by obtain ⟨m, hm⟩ := k0; exact DataW.trod_lt m _ _ _ hm
  obtain ⟨z0, w0⟩ : ∃ zs, IsRow .u8 W a0 len0 cap0 zs := by
    obtain ⟨fuel, hf⟩ := h0
    rcases open_ints Try.underlying22 Try.underlying5 (by kernel_rfl) hf with ⟨hcs, _⟩ | ⟨x, l, c, zs, hcs, _, hl, hm, hz, _, hcell, hwz⟩
    · simp [Value.cells] at hcs
      obtain ⟨rfl, rfl, rfl⟩ := hcs
      exact ⟨[], .inl ⟨rfl, rfl, rfl, rfl⟩⟩
    · simp [Value.cells] at hcs
      obtain ⟨rfl, rfl, rfl⟩ := hcs
      exact ⟨zs, .inr ⟨_, rfl, hl, hm, by simpa using hz, hcell, hwz⟩⟩
  obtain ⟨a1, rfl, rfl, rfl, w1⟩ := open_int Try.underlying3 (hval 1 3 v1 rfl rfl) h1
  obtain ⟨a2, rfl, rfl, rfl, w2⟩ := open_int Try.underlying5 (hval 2 5 v2 rfl rfl) h2
  clear hA0 hval0
  refine (walk a0 len0 cap0 z0 a1 a2 W w0 w1 w2).mono fun e W' ⟨he, bel⟩ => ?_
  subst he
  exact ⟨_, rfl, _, _, _, [], _, [], hW', trodAll_mk1 (shut_bool Try.underlying4 _), (trodAll_cons_mk (Below.trod laidOut (by kernel_rfl) (of_decide_eq_true (by kernel_rfl)) k0 bel lt0) (trodAll_cons_mk (shut_int Try.underlying3 w1) (trodAll_cons_mk (shut_int Try.underlying5 w2) trodAll_mk0))), rfl, bel.frame _, fun h => by cases h⟩

theorem over : Rows.sumTellsRow.holds Try.pinned (OpenSpec.ofChange Rows.sumTellsSpec) :=
  OpenClaim.holds_of_wide 5 Try.f5 rfl rfl rfl rfl rfl rfl rfl ⟨rfl, rfl, rfl, rfl, rfl⟩ rfl rfl rfl rfl rfl (by kernel_rfl) Try.func5 (by kernel_rfl)
    (of_decide_eq_true (by kernel_rfl)) (by unfold Func.isWrapper; first | (rw [if_pos (by decide +kernel)]; kernel_rfl) | (rw [if_neg (by decide +kernel)]; exact ⟨rfl, rfl⟩))
    (fun os started H enc _ => lifted os started H enc)

/-- ████ THE STATEMENT ████ -/
theorem proved : Rows.SumTellsSaid := over
#print axioms proved
end Go.Proofs.Ytfjpiioedkjbcaa.sumTells

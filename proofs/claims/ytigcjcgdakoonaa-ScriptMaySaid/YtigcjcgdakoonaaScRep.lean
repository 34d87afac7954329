/-
  bytes.Repeat of one byte, at most fifteen times (and math/bits.Mul, internal/bytealg.MakeNoZero, as it asks them).
-/
import Derived.Test.YtigcjcgdakoonaaSc
import Derived.Test.YtigcjcgdakoonaaTrees
import Derived.Deep.Cut
import Derived.Deep.DeepCutAuto
import Derived.Deep.CutRange
import Derived.RegionTactic
import Derived.WalkSpells
import Derived.Lib.MakeNoZero
import Derived.Laws.CopyRow
namespace Go.Proofs.Ytigcjcgdakoonaa.ScRp
open Go.ChangeShapes Go.WideShapes Go.ChangeAt Go.RowKit
open Go.Proofs.Ytigcjcgdakoonaa.Mem Go.Proofs.Ytigcjcgdakoonaa.Blk Go.Proofs.Ytigcjcgdakoonaa.Cells Go.Proofs.Ytigcjcgdakoonaa.Stages Go.Proofs.Ytigcjcgdakoonaa.Trees

theorem sizeU : (Try.prog.info? 5).map (·.size) = some 1 := by kernel_rfl
theorem upto15 {n : Nat} (h1 : 1 ≤ n) (hn : n ≤ 15) : n = 1 ∨ n = 2 ∨ n = 3 ∨ n = 4 ∨ n = 5 ∨ n = 6 ∨ n = 7 ∨ n = 8 ∨ n = 9 ∨ n = 10 ∨ n = 11 ∨ n = 12 ∨ n = 13 ∨ n = 14 ∨ n = 15 := by omega
set_option maxHeartbeats 2000000 in
theorem mul64_any {n : Nat} (h1 : 1 ≤ n) (hn : n ≤ 15) (w : World) : Calls Try.prog 21 #[.int .u64 1, .int .u64 (n : Int)] w fun e w' => e = .returned (.tuple #[.int .u64 0, .int .u64 (n : Int)]) ∧ w = w' := by
  rcases upto15 h1 hn with rfl | rfl | rfl | rfl | rfl | rfl | rfl | rfl | rfl | rfl | rfl | rfl | rfl | rfl | rfl <;> (
    go_enter Try.func21, Try.ntmps21
    go_wp2
    go_ret2
    exact ⟨rfl, rfl⟩)
theorem mul_any {n : Nat} (h1 : 1 ≤ n) (hn : n ≤ 15) (w : World) : Calls Try.prog 18 #[.int .u64 1, .int .u64 (n : Int)] w fun e w' => e = .returned (.tuple #[.int .u64 0, .int .u64 (n : Int)]) ∧ w = w' := by
  have CM := Lib.hid fun w => mul64_any h1 hn w
  go_enter Try.func18, Try.ntmps18
  go_wp2_with (go_at_call 21; (with_reducible refine (CM.out _).mono ?_); rintro e w' ⟨rfl, rfl⟩)
  go_ret2
  exact ⟨rfl, rfl⟩
/-- Block g has room for n bytes; the first q of them are v. -/
def Fl (w : World) (g n q : Nat) (v : Int) : Prop := ∃ cur t, w.heap[g]? = some (.cells cur t (0, 0)) ∧ n ≤ cur.size ∧ q ≤ n ∧ ∀ i, i < q → cur[i]? = some (.int .u8 v)
section
variable {w w' : World} {g b n q m : Nat} {v : Int}
theorem Fl.lt (h : Fl w g n q v) : g < w.heap.size := by
  obtain ⟨c, t, hb, _⟩ := h
  exact (Array.getElem?_eq_some_iff.1 hb).1
theorem Fl.cell (h : Fl w g n q v) {i : Nat} (hi : i < q) : w.cell? ⟨g, i, none⟩ = some (.int .u8 v) := by
  obtain ⟨c, t, hb, _, _, hc⟩ := h
  simp [World.cell?, hb, hc i hi]
theorem Fl.drew (h : Fl w g n q v) : Fl w.drew g n q v := h
theorem Fl.drewN (h : Fl w g n q v) (k : Nat) : Fl (w.drewN k) g n q v := h
/-- 'copy' of m bytes v behind the q that there are. -/
theorem fl_copy (h : Fl w g n q v) (a : Addr) (sl sc dc : Nat) (hm : Nat.min sl (n - q) = m) (hsrc : ∀ j, j < m → w.cell? (a.add j) = some (.int .u8 v)) :
    ∃ w', (Builtin.copy_ #[22, 22] 3 #[.slice (some ⟨g, q, none⟩) (n - q) dc, .slice (some a) sl sc]).run Try.prog w = .ok (.int .i64 (m : Int)) w' ∧ Fl w' g n (q + m) v ∧ Kept (· = g) w w' := by
  obtain ⟨cur, t, hb, hs, hq, hc⟩ := h
  have hmn : m ≤ n - q := by rw [← hm]; exact Nat.min_le_right _ _
  have hr := run_copy_row (P := Try.prog) w 22 22 3 5 g q (n - q) dc a sl sc cur t (List.replicate m (.int .u8 v)) Try.underlying22 sizeU hb (by rw [List.length_replicate, hm]) (fun j x hj => by
    have hjm : j < m := by
      have := (List.getElem?_eq_some_iff.1 hj).1
      simpa using this
    rw [hsrc j hjm, ← hj]
    simp [hjm]) (by rw [List.length_replicate]; omega) (fun x hx => by rw [(List.mem_replicate.1 hx).2]; rfl)
  rw [List.length_replicate] at hr
  refine ⟨_, hr, ⟨_, t, setRow_heap w g cur _ t (0, 0) hb, ?_, by omega, fun i hi => ?_⟩, ⟨rfl, rfl, rfl, by simp, fun i hi hf => setRow_other w g i _ hf⟩⟩
  · simp
    omega
  · rw [List.getElem?_toArray, List.append_assoc]
    by_cases e : i < q
    · rw [List.getElem?_append_left (by simp; omega), List.getElem?_take, if_pos e, Array.getElem?_toList]
      exact hc i e
    · rw [List.getElem?_append_right (by simp; omega), List.getElem?_append_left (by simp; omega), List.getElem?_replicate, if_pos (by simp; omega)]
/-- So many bytes, all v, in a block that is new. -/
def RepP (v : Int) (n : Nat) (w : World) (e : Ending) (w' : World) : Prop := ∃ g c, e = .returned (.slice (some ⟨g, 0, none⟩) n c) ∧ w.heap.size ≤ g ∧ n ≤ c ∧ c ≤ maxLen ∧ (∀ j, j < n → w'.cell? ⟨g, j, none⟩ = some (.int .u8 v)) ∧ Grow w w'
theorem rep_post (hg : w.heap.size ≤ g) (h : Fl w' g n n v) (hn : n ≤ 15) (hk : Kept (· = g) w w') : RepP v n w (.returned (.slice (some ⟨g, 0, none⟩) n n)) w' :=
  ⟨g, n, rfl, hg, Nat.le_refl _, by unfold maxLen; omega, fun j hj => h.cell hj, hk.mono fun k hk e => by omega⟩
set_option maxHeartbeats 4000000 in
theorem repeat_any (hx : w.cell? ⟨b, 0, none⟩ = some (.int .u8 v)) (hn : n ≤ 15) : Calls Try.prog 17 #[.slice (some ⟨b, 0, none⟩) 1 1, .int .i64 (n : Int)] w (RepP v n w) := by
  have HN := Lib.hid hn
  by_cases h0 : n = 0
  · subst h0
    clear hn
    go_enter Try.func17, Try.ntmps17
    go_wp2
    go_ret
    exact ⟨w.heap.size, 0, rfl, Nat.le_refl _, Nat.le_refl _, Nat.zero_le _, fun j hj => absurd hj (Nat.not_lt_zero j), (Kept.refl _ _).alloc _⟩
  · have h1 : 1 ≤ n := by omega
    have h1z : (0 : Int) < (n : Int) := by omega
    have hnz : (n : Int) ≤ 15 := by omega
    have h0z : ((n : Int) == 0) = false := by simpa using h0
    have CM := Lib.hid fun w => mul_any h1 hn w
    clear h0
    go_enter Try.func17, Try.ntmps17
    go_upto_region 16 with (go_at_call 18; (with_reducible refine (CM.out _).mono ?_); rintro e w' ⟨rfl, rfl⟩)
    obtain ⟨cs, hrunM, hle, _⟩ := Lib.run_makeNoZero (P := Try.prog) w #[3] 22 5 Try.underlying22 n (by omega)
    have hcall : (callFunc 19 #[.int .i64 (n : Int)]).run Try.prog w = .ok (.value (.slice (some ⟨w.heap.size, 0, none⟩) n cs.size)) ((w.alloc (.cells cs 5)).drewN 2) := by
      rw [run_callFunc_extern Try.func19 (by kernel_rfl) (by kernel_rfl) (by kernel_rfl) (e := Extern.BytealgMakeNoZero.makeNoZero #[3] #[22]) (by kernel_rfl), hrunM]
      rfl
    have hf0 : Fl ((w.alloc (.cells cs 5)).drewN 2) w.heap.size n 0 v := ⟨cs, 5, heap_alloc_new w _, hle, Nat.zero_le _, fun i hi => absurd hi (Nat.not_lt_zero i)⟩
    have hk0 : Grow w ((w.alloc (.cells cs 5)).drewN 2) := ((Kept.refl _ _).alloc _).drewN 2
    have hx0 := hk0.cellN hx id
    obtain ⟨w2, hc2, hf2, hk2⟩ := fl_copy (m := 1) hf0 ⟨b, 0, none⟩ 1 1 n (by rw [Nat.sub_zero]; exact Nat.min_eq_left h1) (fun j hj => by
      obtain rfl : j = 0 := by omega
      simpa [Addr.add] using hx0)
    rw [Nat.zero_add] at hf2
    rw [Nat.sub_zero] at hc2
    have HF2 := Lib.hid hf2
    have HK2 : Hid (Kept (· = w.heap.size) w w2) := (Grow.kept hk0).trans hk2
    obtain ⟨g, hgg⟩ : ∃ g, g = w.heap.size := ⟨_, rfl⟩
    rw [← hgg] at HF2 HK2
    have HGE : Hid (w.heap.size ≤ g) := Nat.le_of_eq hgg.symm
    rw [← hgg] at hc2 hcall
    clear hf0 hk0 hx0 hx hf2 hk2 hgg hrunM
    have hle2 : (n : Int) ≤ (cs.size : Int) := by omega
    have hn0 : (0 : Int) ≤ (n : Int) := by omega
    simp only [Int.cast_ofNat_Int] at hc2
    go_wp2
    clear hc2 hcall
    go_loopg [10] (n - 1) (fun gx i wr => ∃ q : Nat, q + gx = n ∧ i = .int .i64 (q : Int) ∧ 1 ≤ q ∧ Fl wr g n q v ∧ Kept (· = g) w wr)
    case atStart => exact ⟨1, by omega, rfl, Nat.le_refl _, HF2.out, HK2.out⟩
    case round =>
      clear HF2 HK2
      obtain ⟨q, hg, rfl, hq1, hf, hk⟩ := hrel
      have HG := Lib.hid hg
      have HQ1 := Lib.hid hq1
      have HK := Lib.hid hk
      by_cases hq : q < n
      · obtain ⟨m, hm⟩ : ∃ m, Nat.min q (n - q) = m := ⟨_, rfl⟩
        have hmm : m ≤ q ∧ m ≤ n - q ∧ 1 ≤ m := by rw [← hm]; exact ⟨Nat.min_le_left _ _, Nat.min_le_right _ _, Nat.le_min.2 ⟨hq1, by omega⟩⟩
        obtain ⟨w3, hc, hf3, hk3⟩ := fl_copy hf.drew ⟨g, 0, none⟩ q n (n - q) hm (fun j hj => by
          have := hf.drew.cell (i := j) (by omega)
          unfold Addr.add
          split
          · simp_all
          · simpa using this)
        have HF3 := Lib.hid hf3
        have HK3 := Lib.hid hk3
        have HM := Lib.hid hmm
        have hqz : (q : Int) < (n : Int) := by omega
        have hqz2 : (q : Int) ≤ (n : Int) := by omega
        have hqz3 : ¬ ((n : Int) ≤ (q : Int)) := by omega
        have hq0 : (0 : Int) ≤ (q : Int) := by omega
        have hmz : (m : Int) ≤ 15 := by omega
        have hqmz : (q : Int) + (m : Int) ≤ 15 := by omega
        clear hf hk hf3 hk3 hm hmm hg hq1
        go_upto_region 20 with (fail)
        refine wp_region_stages (Kept (· = g)) (kept_refl _) (kept_trans _) [([0, 1, 2, 3, 4, 5, 6], 7)] [8, 9] (by kernel_rfl) (by kernel_rfl) ?_
        simp only [selSt, sel, List.map_cons, List.map_nil, List.getD_cons_succ, List.getD_cons_zero]
        refine st_cons fun K1 hK1 => ?_
        repeat (go_big_quiet_step (fail))
        refine wpQuiet_nil ?_
        go_wp2
        clear hc
        refine norm_up (hK1 _ _ HK3.out (st_nil fun K4 hK4 => ?_))
        clear hK1 K1
        repeat (go_big_quiet_step (fail))
        refine wpQuiet_nil (hK4 _ ?_)
        clear hK4 K4
        go_wp2
        go_roundg (gk - m)
        case measure => have := HG.out; have := HM.out; omega
        case rel => exact ⟨q + m, by have := HG.out; have := HM.out; omega, by go_num, by have := HM.out; omega, HF3.out, (HK.out.trans (Kept.drew' wr)).trans HK3.out⟩
      · have hqn : q = n := by have := HG.out; omega
        subst hqn
        have HF := Lib.hid hf
        clear hf hk hq hg hq1
        go_wp2
        go_ret
        exact rep_post HGE.out HF.out HN.out HK.out
end
end Go.Proofs.Ytigcjcgdakoonaa.ScRp

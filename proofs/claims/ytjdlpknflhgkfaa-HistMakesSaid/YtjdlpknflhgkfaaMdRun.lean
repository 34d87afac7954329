/-
  The document's state (lavaboref13.S): Do as a whole.
-/
import Derived.Test.YtjdlpknflhgkfaaMdDoA
import Derived.Test.YtjdlpknflhgkfaaMdDoB
import Derived.Test.YtjdlpknflhgkfaaMdDoC
import Derived.Test.YtjdlpknflhgkfaaPmStep4
namespace Go.Proofs.Ytjdlpknflhgkfaa.MdH
open Go.ChangeShapes Go.WideShapes Go.ChangeAt Go.RowKit
open Go.Proofs.Ytjdlpknflhgkfaa.Mem Go.Proofs.Ytjdlpknflhgkfaa.Blk Go.Proofs.Ytjdlpknflhgkfaa.Cells Go.Proofs.Ytjdlpknflhgkfaa.Orow Go.Proofs.Ytjdlpknflhgkfaa.GrC Go.Proofs.Ytjdlpknflhgkfaa.MdM Go.Proofs.Ytjdlpknflhgkfaa.MdC Go.Proofs.Ytjdlpknflhgkfaa.MdR Go.Proofs.Ytjdlpknflhgkfaa.MdD Go.Proofs.Ytjdlpknflhgkfaa.MdE Go.Proofs.Ytjdlpknflhgkfaa.MdF Go.Proofs.Ytjdlpknflhgkfaa.MdG Go.Proofs.Ytjdlpknflhgkfaa.PmI Go.Proofs.Ytjdlpknflhgkfaa.PmU Go.Proofs.Ytjdlpknflhgkfaa.PmV Go.Proofs.Ytjdlpknflhgkfaa.PmW Go.Proofs.Ytjdlpknflhgkfaa.Stages

section
variable {w : World} {G : Nat → Prop} {v ov : Value} {a : Md} {o : MdOp}
theorem rdo_any (h : SAt w G v a) (hlt : ∀ k, G k → k < w.heap.size) (c : Int) (ho : OpV w w.heap.size ov o) : Calls Try.prog 38 #[v, .int .i64 c, ov] w (DoPost G v w (a.run c o)) := by
  have hg := h.good
  obtain ⟨gT, cT, gB, cB, gH, cH, q, cp, rfl, hm⟩ := h.mem
  obtain ⟨D, dl, dc, rfl, hd, hby, hl, hmx⟩ := ho
  have hdl : o.d.length = dl := hd.len
  by_cases c0 : c < 0
  · rw [run_out (by omega)]
    exact do_c0 hm hg hlt hd c c0
  by_cases c1 : (a.N : Int) ≤ c
  · rw [run_out (by omega)]
    exact do_c1 hm hg hlt hd c (by omega) c1
  obtain ⟨kc, rfl⟩ := Int.eq_ofNat_of_zero_le (show 0 ≤ c by omega)
  have hkc : (kc : Int) < (a.N : Int) := by omega
  have hkn : kc < a.N := by omega
  by_cases k0 : o.k < 1
  · rw [run_none (by omega) (by omega) (by omega) (by omega) (by omega) (by omega) (by omega) (by omega)]
    exact do_k0 hm hg hlt hd kc hkc k0
  by_cases k9 : 8 < o.k
  · rw [run_none (by omega) (by omega) (by omega) (by omega) (by omega) (by omega) (by omega) (by omega)]
    exact do_k9 hm hg hlt hd kc hkc k9
  have page : ∀ f : Nat → Re × Md, (o.k = 2 ∨ o.k = 6 ∨ o.k = 8) →
      (∀ p : Nat, o.p = (p : Int) → (p : Int) < (a.n : Int) → a.T p = true → Calls Try.prog 38 #[sval gT cT gB cB gH cH a, .int .i64 (kc : Int), .agg #[.int .i64 o.k, .int .i64 o.p, .int .i64 o.h, .int .i64 o.o, .int .i64 o.n, .slice D dl dc]] w (DoPost G (sval gT cT gB cB gH cH a) w (f p))) →
      Calls Try.prog 38 #[sval gT cT gB cB gH cH a, .int .i64 (kc : Int), .agg #[.int .i64 o.k, .int .i64 o.p, .int .i64 o.h, .int .i64 o.o, .int .i64 o.n, .slice D dl dc]] w (DoPost G (sval gT cT gB cB gH cH a) w (a.onPage o.p f)) := fun f hk hgo => by
    by_cases p0 : o.p < 0
    · have e : a.onPage o.p f = (err 1, a) := if_pos (by omega)
      rw [e]
      exact do_p0 hm hg hlt hd kc hkc hk p0
    · by_cases p1 : (a.n : Int) ≤ o.p
      · have e : a.onPage o.p f = (err 1, a) := if_pos (by omega)
        rw [e]
        exact do_p1 hm hg hlt hd kc hkc hk (by omega) p1
      · obtain ⟨p, hp⟩ := Int.eq_ofNat_of_zero_le (show 0 ≤ o.p by omega)
        cases hT : a.T p with
        | false =>
          have e : a.onPage o.p f = (err 2, a) := by
            unfold Md.onPage
            rw [hp, if_neg (by omega), Int.toNat_natCast, if_pos hT]
          rw [e]
          exact do_p2 hm hg hlt hd kc hkc hk p hp (by omega) hT
        | true =>
          have e : a.onPage o.p f = f p := by
            rw [hp]
            exact onPage_good (by omega) hT
          rw [e]
          exact hgo p hp (by omega) hT
  have hand : ∀ f : Nat → Re × Md, (o.k = 3 ∨ o.k = 4 ∨ o.k = 5) →
      (∀ p j : Nat, p < a.n → a.T p = true → a.held (kc : Int) o.h = (p : Int) → o.h = (j : Int) → j < 6 → Calls Try.prog 38 #[sval gT cT gB cB gH cH a, .int .i64 (kc : Int), .agg #[.int .i64 o.k, .int .i64 o.p, .int .i64 o.h, .int .i64 o.o, .int .i64 o.n, .slice D dl dc]] w (DoPost G (sval gT cT gB cB gH cH a) w (f p))) →
      Calls Try.prog 38 #[sval gT cT gB cB gH cH a, .int .i64 (kc : Int), .agg #[.int .i64 o.k, .int .i64 o.p, .int .i64 o.h, .int .i64 o.o, .int .i64 o.n, .slice D dl dc]] w (DoPost G (sval gT cT gB cB gH cH a) w (a.onHand (kc : Int) o.h f)) := fun f hk hgo => by
    rcases held_cases hg (kc : Int) o.h with hh | ⟨k', j, p, _, e2, _, hj, hh, _, hp, hT⟩
    · rw [onHand_bad hh]
      exact do_h0 hm hg hlt hd kc hkc hk hh
    · rw [onHand_good hh]
      exact hgo p j hp hT hh e2 hj
  have hk : o.k = 1 ∨ o.k = 2 ∨ o.k = 3 ∨ o.k = 4 ∨ o.k = 5 ∨ o.k = 6 ∨ o.k = 7 ∨ o.k = 8 := by omega
  rcases hk with hk | hk | hk | hk | hk | hk | hk | hk
  · rw [run_1 hkn hk]
    rcases free_cases a kc with hf | ⟨j, hj, hf⟩
    · have e : a.new kc = (err 4, a) := if_pos hf
      rw [e]
      exact do_1f hm hg hlt hd kc hkc hk hf
    · by_cases hga : a.gap = a.n
      · have e : a.new kc = (err 3, a) := by unfold Md.new; rw [if_neg (by omega), if_pos hga]
        rw [e]
        exact do_1g hm hg hlt hd kc hkc hk j hf hga
      · have e : a.new kc = (⟨0, (a.gap : Int), (j : Int), []⟩, (a.putT a.gap true).putH kc j (a.gap : Int)) := by unfold Md.new; rw [if_neg (by omega), if_neg hga, hf, Int.toNat_natCast]
        rw [e]
        exact do_1 hm hg hlt hd kc hkc hk j hf a.gap rfl (Nat.lt_of_le_of_ne (gap_le a) hga)
  · rw [run_2 hkn hk]
    refine page _ (.inl hk) fun p hp hpn hT => ?_
    rcases free_cases a kc with hf | ⟨j, hj, hf⟩
    · have e : a.fetch kc p = (err 4, a) := if_pos hf
      rw [e]
      exact do_2f hm hg hlt hd kc hkc hk p hp hpn hT hf
    · have e : a.fetch kc p = (⟨0, (p : Int), (j : Int), []⟩, a.putH kc j (p : Int)) := by unfold Md.fetch; rw [if_neg (by omega), hf, Int.toNat_natCast]
      rw [e]
      exact do_2 hm hg hlt hd kc hkc hk p hp hpn hT j hf
  · rw [run_3 hkn hk]
    refine hand _ (.inl hk) fun p j hpn hT hh _ _ => ?_
    by_cases hf : fits o.o o.n
    · rw [read_good hf]
      obtain ⟨u, hu⟩ := Int.eq_ofNat_of_zero_le hf.1
      obtain ⟨m, hmm⟩ := Int.eq_ofNat_of_zero_le hf.2.1
      have := hf.2.2
      have := do_3 (dc := dc) hm hg hlt hd kc hkc hk p hpn hh u m hu hmm (by omega)
      rw [hu, hmm, Int.toNat_natCast, Int.toNat_natCast]
      rw [hu, hmm] at this
      exact this
    · rw [read_bad hf]
      by_cases h1 : o.o < 0
      · exact do_3a hm hg hlt hd kc hkc hk p hpn hh h1
      by_cases h2 : o.n < 0
      · exact do_3b hm hg hlt hd kc hkc hk p hpn hh (by omega) h2
      by_cases h3 : 16 < o.o
      · exact do_3c hm hg hlt hd kc hkc hk p hpn hh (by omega) (by omega) h3
      exact do_3d hm hg hlt hd kc hkc hk p hpn hh (by omega) (by omega) (by omega) (by unfold fits at hf; omega)
  · rw [run_4 hkn hk]
    refine hand _ (.inr (.inl hk)) fun p j hpn hT hh _ _ => ?_
    by_cases hf : fits o.o (o.d.length : Int)
    · rw [write_good hf]
      obtain ⟨u, hu⟩ := Int.eq_ofNat_of_zero_le hf.1
      have := hf.2.2
      have := do_4 (dc := dc) hm hg hlt hd kc hkc hk p hpn hh hT u hu (by omega) hby
      rw [hu, Int.toNat_natCast]
      rw [hu] at this
      exact this
    · rw [write_bad hf]
      by_cases h1 : o.o < 0
      · exact do_4a hm hg hlt hd kc hkc hk p hpn hh h1
      by_cases h2 : 16 < o.o
      · exact do_4b hm hg hlt hd kc hkc hk p hpn hh (by omega) h2
      exact do_4c hm hg hlt hd kc hkc hk p hpn hh (by omega) (by omega) (by unfold fits at hf; omega)
  · rw [run_5 hkn hk]
    refine hand _ (.inr (.inr hk)) fun p j hpn hT hh hj hj6 => ?_
    have := do_5 (dc := dc) hm hg hlt hd kc hkc hk p hpn hh j hj (by omega)
    rw [Int.toNat_natCast, show o.h.toNat = j by omega]
    exact this
  · rw [run_6 hkn hk]
    exact page _ (.inr (.inl hk)) fun p hp hpn hT => do_6 hm hg hlt hd kc hkc hk p hp hpn hT
  · rw [run_7 hkn hk]
    exact do_7 hm hg hlt hd kc hkc hk
  · rw [run_8 hkn hk]
    refine page _ (.inr (.inr hk)) fun p hp hpn hT => ?_
    by_cases hpi : a.pins (p : Int) = 0
    · have e : a.del p = (err 0, a.putT p false) := if_neg (by omega)
      rw [e]
      exact do_8 hm hg hlt hd kc hkc hk p hp hpn hT hpi
    · have e : a.del p = (err 7, a) := if_pos (by omega)
      rw [e]
      exact do_8p hm hg hlt hd kc hkc hk p hp hpn hT (by omega)
end
#print axioms rdo_any
end Go.Proofs.Ytjdlpknflhgkfaa.MdH

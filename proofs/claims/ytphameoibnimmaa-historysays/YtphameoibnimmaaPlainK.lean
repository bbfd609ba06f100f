/- Plain facts on the reference's fold: the least one above the last one, looked for one by one. -/
import Derived.Test.YtphameoibnimmaaPlainJ
namespace Orangery

/-- what the search for the least one above the last one has found among the first i -/
def bestOk (l : List Mv) (last : Int) (i : Nat) (best : Int) : Prop :=
  (best = -1 ∧ ∀ x ∈ l.take i, ¬ last < rk x) ∨
  ∃ j : Nat, ∃ hj : j < l.length, best = j ∧ j < i ∧ last < rk l[j] ∧ (∀ x ∈ l.take i, last < rk x → rk l[j] ≤ rk x) ∧ ∀ x ∈ l.take j, rk x ≠ rk l[j]

theorem best_start (l : List Mv) (last : Int) : bestOk l last 0 (-1) := Or.inl ⟨rfl, by simp⟩

theorem mem_take_succ {l : List Mv} {i : Nat} (hi : i < l.length) (x : Mv) : x ∈ l.take (i + 1) ↔ x ∈ l.take i ∨ x = l[i] := by
  rw [List.take_succ_eq_append_getElem hi, List.mem_append, List.mem_singleton]

theorem best_no {l : List Mv} {last best : Int} {i : Nat} (hi : i < l.length) (h : bestOk l last i best) (hn : ¬ last < rk l[i]) : bestOk l last (i + 1) best := by
  rcases h with ⟨rfl, h⟩ | ⟨j, hj, rfl, h1, h2, h3, h4⟩
  · refine Or.inl ⟨rfl, fun x hx => ?_⟩
    rcases (mem_take_succ hi x).1 hx with hx | rfl
    · exact h x hx
    · exact hn
  · refine Or.inr ⟨j, hj, rfl, by omega, h2, fun x hx hl => ?_, h4⟩
    rcases (mem_take_succ hi x).1 hx with hx | rfl
    · exact h3 x hx hl
    · exact absurd hl hn
theorem best_first {l : List Mv} {last : Int} {i : Nat} (hi : i < l.length) (h : bestOk l last i (-1)) (hn : last < rk l[i]) : bestOk l last (i + 1) i := by
  rcases h with ⟨_, h⟩ | ⟨j, hj, e, _⟩
  · refine Or.inr ⟨i, hi, rfl, by omega, hn, fun x hx hl => ?_, fun x hx e => ?_⟩
    · rcases (mem_take_succ hi x).1 hx with hx | rfl
      · exact absurd hl (h x hx)
      · exact Int.le_refl _
    · exact h x hx (by rw [e]; exact hn)
  · omega
theorem best_less {l : List Mv} {last : Int} {i j : Nat} (hi : i < l.length) (hj : j < l.length) (h : bestOk l last i j) (hn : last < rk l[i]) (hl : rk l[i] < rk l[j]) : bestOk l last (i + 1) i := by
  rcases h with ⟨e, _⟩ | ⟨j', hj', e, h1, h2, h3, h4⟩
  · omega
  · obtain rfl : j = j' := by omega
    refine Or.inr ⟨i, hi, rfl, by omega, hn, fun x hx hlx => ?_, fun x hx e => ?_⟩
    · rcases (mem_take_succ hi x).1 hx with hx | rfl
      · have := h3 x hx hlx; omega
      · exact Int.le_refl _
    · have := h3 x hx (by rw [e]; exact hn)
      omega
theorem best_keep {l : List Mv} {last : Int} {i j : Nat} (hi : i < l.length) (hj : j < l.length) (h : bestOk l last i j) (hl : ¬ rk l[i] < rk l[j]) : bestOk l last (i + 1) j := by
  rcases h with ⟨e, _⟩ | ⟨j', hj', e, h1, h2, h3, h4⟩
  · omega
  · obtain rfl : j = j' := by omega
    refine Or.inr ⟨j, hj', rfl, by omega, h2, fun x hx hlx => ?_, h4⟩
    rcases (mem_take_succ hi x).1 hx with hx | rfl
    · exact h3 x hx hlx
    · omega

theorem best_cases {l : List Mv} {last best : Int} {i : Nat} (h : bestOk l last i best) : best = -1 ∨ ∃ j : Nat, best = j ∧ j < l.length := by
  rcases h with ⟨e, _⟩ | ⟨j, hj, e, _⟩
  · exact Or.inl e
  · exact Or.inr ⟨j, e, hj⟩

theorem best_none {l : List Mv} {k : Nat} (hk : k ≤ (srt l).length) (hok : ∀ o ∈ l, checkOp o = 0) (h : bestOk l (lastR (srt l) k) l.length (-1)) : k = (srt l).length := by
  rcases h with ⟨_, h⟩ | ⟨j, hj, e, _⟩
  · rw [List.take_of_length_le (Nat.le_refl _)] at h
    exact srt_none l k hk (fun o ho => rk_pos (hok o ho)) h
  · omega
theorem best_next {l : List Mv} {k j : Nat} (hk : k ≤ (srt l).length) (hok : ∀ o ∈ l, checkOp o = 0) (h : bestOk l (lastR (srt l) k) l.length j) :
    ∃ hj : j < l.length, ∃ h : k < (srt l).length, (srt l)[k] = l[j] := by
  rcases h with ⟨e, _⟩ | ⟨j', hj', e, h1, h2, h3, h4⟩
  · omega
  · obtain rfl : j = j' := by omega
    rw [List.take_of_length_le (Nat.le_refl _)] at h3
    have hf : l.find? (fun x => rk x == rk l[j]) = some l[j] := by
      rw [List.find?_eq_some_iff_getElem]
      refine ⟨by simp, j, hj', rfl, fun i hi => ?_⟩
      have : rk l[i] ≠ rk l[j] := h4 l[i] (by rw [List.mem_take_iff_getElem]; exact ⟨i, by omega, rfl⟩)
      simp [this]
    obtain ⟨h5, h6⟩ := srt_next l k hk (fun o ho => rk_pos (hok o ho)) l[j] hf h2 h3
    exact ⟨hj', h5, h6⟩
theorem lastR_zero (d : List Mv) : lastR d 0 = -1 := by unfold lastR; rw [dif_neg (by omega)]
theorem lastR_succ (d : List Mv) (k : Nat) (hk : k < d.length) : lastR d (k + 1) = rk d[k] := by
  unfold lastR
  rw [dif_pos ⟨by omega, by simpa using hk⟩]
  simp
theorem noTwo_of_srt {l : List Mv} (h : l.length ≤ (srt l).length) : noTwo l := by
  by_cases hn : noTwo l
  · exact hn
  · have := (srt_len l).2.2 hn; omega
theorem twice_of_srt {l : List Mv} (h : (srt l).length < l.length) : ¬ noTwo l := by
  intro hn
  have := ((srt_len l).2.1 hn).length_eq
  omega
end Orangery

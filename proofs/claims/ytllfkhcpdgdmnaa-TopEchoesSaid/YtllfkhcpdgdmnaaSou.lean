/- Mathematics: the search visits only rows with these delays, and in order. -/
import Derived.Test.YtllfkhcpdgdmnaaVis
namespace Go.Proofs.Ytllfkhcpdgdmnaa

theorem st1_inv {t t' : List Int} {p x : Int} (h : st1 p t x = some t') : t.getD (p - x).toNat 0 ≠ 0 ∧ t' = t.set (p - x).toNat (t.getD (p - x).toNat 0 - 1) := by
  unfold st1 at h
  split at h
  · cases h
  · rename_i hne
    injection h with h
    exact ⟨hne, h.symm⟩
/-- What is left when a place came: what was there, without its distances. -/
theorem wo_spec (p : Int) : ∀ (b t t' : List Int), wo b p t = some t' → t.length = 61 → (∀ d : Nat, d < 61 → 0 ≤ t.getD d 0) → (∀ x ∈ b, 0 ≤ p - x ∧ p - x ≤ 60) →
    t'.length = 61 ∧ ∀ d : Nat, d < 61 → 0 ≤ t'.getD d 0 ∧ t'.getD d 0 + ((b.map fun x => p - x).count (d : Int) : Int) = t.getD d 0
  | [], t, t', h, hl, h0, _ => by
    have e : t = t' := by unfold wo at h; simpa using h
    subst e
    exact ⟨hl, fun d hd => ⟨h0 d hd, by simp⟩⟩
  | x :: b, t, t', h, hl, h0, hx => by
    have hx0 := hx x (by simp)
    obtain ⟨dx, hdx⟩ : ∃ dx : Nat, (dx : Int) = p - x := ⟨(p - x).toNat, by omega⟩
    have hdl : dx < 61 := by omega
    have e : (p - x).toNat = dx := by omega
    unfold wo at h
    rw [List.foldlM_cons] at h
    cases hs : st1 p t x with
    | none => rw [hs] at h; cases h
    | some t1 =>
      rw [hs] at h
      obtain ⟨g1, rfl⟩ := st1_inv hs
      rw [e] at g1
      have hpos := h0 dx hdl
      obtain ⟨r1, r2⟩ := wo_spec p b _ t' h (by rw [List.length_set]; exact hl) (fun d hd => by
        rw [e, set_at (by rw [hl]; exact hdl)]
        split
        · omega
        · exact h0 d hd) (fun y hy => hx y (by simp [hy]))
      refine ⟨r1, fun d hd => ?_⟩
      obtain ⟨s1, s2⟩ := r2 d hd
      rw [e, set_at (by rw [hl]; exact hdl)] at s2
      have hc : ((x :: b).map fun x => p - x).count (d : Int) = (b.map fun x => p - x).count (d : Int) + if dx = d then 1 else 0 := by
        rw [List.map_cons, List.count_cons, ← hdx]
        by_cases e2 : dx = d
        · simp [e2]
        · simp [e2]
          omega
      refine ⟨s1, ?_⟩
      rw [hc]
      by_cases e2 : dx = d
      · subst e2
        rw [if_pos rfl] at s2 ⊢
        omega
      · rw [if_neg e2] at s2 ⊢
        omega
theorem visP_mem {V : List Int → List Int → List (List Int)} {b t L : List Int} {p : Nat} : L ∈ visP V b t p ↔ ∃ t', wo b (p : Int) t = some t' ∧ L ∈ V (b ++ [(p : Int)]) t' := by
  unfold visP
  cases h : wo b (p : Int) t with
  | none => simp
  | some t' => simp
theorem vis_mem {k : Nat} {b t L : List Int} : L ∈ vis (k + 1) b t ↔ ∃ p : Nat, p < 61 ∧ lastB b < (p : Int) ∧ ∃ t', wo b (p : Int) t = some t' ∧ L ∈ vis k (b ++ [(p : Int)]) t' := by
  change L ∈ visN (vis k) b t 61 ↔ _
  unfold visN
  rw [List.mem_flatMap]
  constructor
  · rintro ⟨p, hp, h⟩
    obtain ⟨h1, h2⟩ := List.mem_filter.1 hp
    exact ⟨p, List.mem_range.1 h1, by simpa using h2, visP_mem.1 h⟩
  · rintro ⟨p, h1, h2, h3⟩
    exact ⟨p, List.mem_filter.2 ⟨List.mem_range.2 h1, by simpa using h2⟩, visP_mem.2 h3⟩
/-- A beginning: in order, from 0 to 60. -/
structure BegS (b : List Int) : Prop where
  srt : b.Pairwise (· < ·)
  rng : ∀ x ∈ b, 0 ≤ x ∧ x ≤ lastB b
  top : lastB b ≤ 60
theorem BegS.snoc {b : List Int} (h : BegS b) {p : Int} (h0 : 0 ≤ p) (h1 : lastB b < p) (h2 : p ≤ 60) : BegS (b ++ [p]) := by
  refine ⟨List.pairwise_append.2 ⟨h.srt, by simp, fun x hx y hy => ?_⟩, fun x hx => ?_, by rw [lastB_snoc]; exact h2⟩
  · obtain rfl : y = p := by simpa using hy
    have := h.rng x hx
    omega
  · rw [lastB_snoc]
    rcases List.mem_append.1 hx with hx | hx
    · have := h.rng x hx
      omega
    · obtain rfl : x = p := by simpa using hx
      exact ⟨h0, Int.le_refl _⟩
theorem BegS.one : BegS [0] := ⟨by simp, by simp [lastB, gi], by simp [lastB, gi]⟩
theorem vis_pre : ∀ (k : Nat) (b t L : List Int), L ∈ vis k b t → ∃ r, L = b ++ r ∧ r.length = k
  | 0, b, t, L, h => ⟨[], by simpa [vis] using h, rfl⟩
  | k + 1, b, t, L, h => by
    obtain ⟨p, _, _, t', _, hm⟩ := vis_mem.1 h
    obtain ⟨r, e, hr⟩ := vis_pre k _ _ _ hm
    exact ⟨(p : Int) :: r, by rw [e]; simp, by simp [hr]⟩
/-- What is visited is in order, and has no further delays than there are. -/
theorem vis_sound : ∀ (k : Nat) (b t L : List Int), L ∈ vis k b t → BegS b → t.length = 61 → (∀ d : Nat, d < 61 → 0 ≤ t.getD d 0) →
    BegS L ∧ ∀ d : Nat, d < 61 → ((dif L).count (d : Int) : Int) ≤ t.getD d 0 + ((dif b).count (d : Int) : Int)
  | 0, b, t, L, h, hb, _, h0 => by
    have e : L = b := by simpa [vis] using h
    subst e
    exact ⟨hb, fun d hd => by have := h0 d hd; omega⟩
  | k + 1, b, t, L, h, hb, hl, h0 => by
    obtain ⟨p, hp, hlt, t', hw, hm⟩ := vis_mem.1 h
    obtain ⟨w1, w2⟩ := wo_spec _ _ _ _ hw hl h0 (fun x hx => by have := hb.rng x hx; omega)
    obtain ⟨g2, g3⟩ := vis_sound k _ _ _ hm (hb.snoc (by omega) hlt (by omega)) w1 (fun d hd => (w2 d hd).1)
    refine ⟨g2, fun d hd => ?_⟩
    have a1 := g3 d hd
    have a2 := w2 d hd
    rw [dif_snoc, List.count_append] at a1
    omega
/-- In lexicographic order, with different places. -/
def Bf (L M : List Int) : Prop := ∃ (b : List Int) (p q : Int) (r s : List Int), L = b ++ p :: r ∧ M = b ++ q :: s ∧ p < q
theorem Bf.bef {L M : List Int} (h : Bf L M) : befB L M = true := by
  obtain ⟨b, p, q, r, s, rfl, rfl, hpq⟩ := h
  induction b with
  | nil => simp [befB, show ¬ p = q by omega, hpq]
  | cons x b ih => simpa [befB] using ih
theorem Bf.ne {L M : List Int} (h : Bf L M) : L ≠ M := by
  obtain ⟨b, p, q, r, s, rfl, rfl, hpq⟩ := h
  intro e
  have := List.append_cancel_left e
  injection this with e1
  omega
theorem vis_order : ∀ (k : Nat) (b t : List Int), (vis k b t).Pairwise Bf
  | 0, b, t => by simp [vis]
  | k + 1, b, t => by
    change (visN (vis k) b t 61).Pairwise Bf
    unfold visN
    rw [List.pairwise_flatMap]
    refine ⟨fun p _ => ?_, ?_⟩
    · unfold visP
      split
      · exact vis_order k _ _
      · simp
    · refine (List.Pairwise.filter _ (List.pairwise_lt_range (n := 61))).imp fun {p q} hpq x hx y hy => ?_
      obtain ⟨t1, _, m1⟩ := visP_mem.1 hx
      obtain ⟨t2, _, m2⟩ := visP_mem.1 hy
      obtain ⟨r, e1, _⟩ := vis_pre _ _ _ _ m1
      obtain ⟨s, e2, _⟩ := vis_pre _ _ _ _ m2
      exact ⟨b, (p : Int), (q : Int), r, s, by rw [e1]; simp, by rw [e2]; simp, by omega⟩
/-- As many, and not more of any: the same in another order. -/
theorem perm_le : ∀ {A B : List Int}, A.length = B.length → (∀ x ∈ A, A.count x ≤ B.count x) → A.Perm B
  | [], B, hl, _ => by
    obtain rfl := List.eq_nil_of_length_eq_zero hl.symm
    exact .refl _
  | a :: A, B, hl, h => by
    have ha : a ∈ B := by
      have := h a (by simp)
      rw [List.count_cons_self] at this
      exact List.count_pos_iff.1 (by omega)
    have hp := List.perm_cons_erase ha
    refine (List.Perm.cons a (perm_le (B := B.erase a) ?_ fun x hx => ?_)).trans hp.symm
    · have := hp.length_eq
      simp at this hl
      omega
    · have h1 := h x (by simp [hx])
      rw [hp.count_eq, List.count_cons, List.count_cons] at h1
      omega
theorem dok_sorted {ds : List Int} (h : DokTo ds ds.length) : ds.Pairwise (· ≤ ·) := by
  rw [List.pairwise_iff_getElem]
  intro i j hi hj hij
  have hm : ∀ n : Nat, i + n < ds.length → ds.getD i 0 ≤ ds.getD (i + n) 0 := by
    intro n
    induction n with
    | zero => intro _; exact Int.le_refl _
    | succ n ih =>
      intro hn
      have h1 := ih (by omega)
      rcases (dokB_iff.1 (h (i + (n + 1)) hn)).2.2 with h2 | h2
      · omega
      · rw [show i + (n + 1) - 1 = i + n by omega] at h2
        omega
  have := hm (j - i) (by omega)
  rw [show i + (j - i) = j by omega, List.getD_eq_getElem?_getD, List.getD_eq_getElem?_getD, List.getElem?_eq_getElem hi, List.getElem?_eq_getElem hj] at this
  exact this
theorem dok_rng {ds : List Int} (h : DokTo ds ds.length) : ∀ x ∈ ds, 1 ≤ x ∧ x ≤ 60 := fun x hx => by
  obtain ⟨k, hk, e⟩ := List.getElem_of_mem hx
  have := dokB_iff.1 (h k hk)
  rw [List.getD_eq_getElem?_getD, List.getElem?_eq_getElem hk, Option.getD_some, e] at this
  exact ⟨this.1, this.2.1⟩
theorem begS_ok {L : List Int} (h : BegS L) (h1 : 1 ≤ L.length) (h6 : L.length ≤ 6) : errC L = 0 := by
  have hr : ∀ k, k < L.length → 0 ≤ L.getD k 0 ∧ L.getD k 0 ≤ 60 := fun k hk => by
    have hm : L.getD k 0 ∈ L := by
      rw [List.getD_eq_getElem?_getD, List.getElem?_eq_getElem hk]
      exact List.getElem_mem hk
    have := h.rng _ hm
    have := h.top
    omega
  refine errC_fine h1 h6 (fun i hi => okB_iff.2 ?_) ?_
  · have := hr i hi
    refine ⟨by omega, by omega, ?_⟩
    by_cases e : i = 0
    · exact .inl e
    · right
      have := (List.pairwise_iff_getElem.1 h.srt) (i - 1) i (by omega) hi (by omega)
      rw [List.getD_eq_getElem?_getD, List.getD_eq_getElem?_getD, List.getElem?_eq_getElem hi, List.getElem?_eq_getElem (show i - 1 < L.length by omega)]
      exact this
  · unfold ext
    have g1 := hr 0 (by omega)
    have g2 := hr (L.length - 1) (by omega)
    omega
/-- All rows that the search for delays visits. -/
def visA (ds : List Int) : List (List Int) := vis (cwV ds.length - 1) [0] (tal ds)
theorem cwV_rng (m : Nat) (h : cwV m ≠ 0) : 1 ≤ cwV m ∧ cwV m ≤ 6 ∧ cwV m * (cwV m - 1) = 2 * m := by
  unfold cwV at h ⊢
  repeat' split at h
  all_goals first
    | (exact absurd rfl h)
    | (subst_vars; simp)
/-- What the search for delays visits is valid, begins at 0, and has these delays. -/
theorem visA_sound {ds L : List Int} (hd : errD ds = 0) (h : L ∈ visA ds) : errC L = 0 ∧ gi L 0 = 0 ∧ L.length = cwV ds.length ∧ sortZ (dif L) = ds := by
  obtain ⟨d1, d2, d3⟩ := errD_ok.1 hd
  obtain ⟨c1, c2, c3⟩ := cwV_rng _ d2
  have hr : ∀ x ∈ ds, 0 ≤ x ∧ x ≤ 60 := fun x hx => by have := dok_rng d3 x hx; omega
  unfold visA at h
  obtain ⟨r, e, hl⟩ := vis_pre _ _ _ _ h
  obtain ⟨s1, s2⟩ := vis_sound _ _ _ _ h BegS.one (by
    have := (tal_count ds hr none61 rfl).1
    exact this) (fun d hd => by rw [tal_at hr hd]; omega)
  have hlen : L.length = cwV ds.length := by rw [e]; simp; omega
  have ok := begS_ok s1 (by omega) (by omega)
  refine ⟨ok, by rw [e]; simp [gi], hlen, ?_⟩
  have hdl := dif_length L.length L rfl
  rw [hlen, c3] at hdl
  have hp : (dif L).Perm ds := perm_le (by omega) (fun x hx => by
    have hx1 := dif_range ok x hx
    have hx2 : ext L ≤ 60 := (errC_ok.1 ok).2.2.2
    obtain ⟨q, rfl⟩ : ∃ q : Nat, x = (q : Int) := ⟨x.toNat, by omega⟩
    have := s2 q (by omega)
    rw [tal_at hr (by omega)] at this
    have e0 : dif [(0 : Int)] = [] := rfl
    rw [e0] at this
    simp at this
    omega)
  exact sorted_unique ((sortZ_perm _).trans hp) (sortZ_sorted _) (dok_sorted d3)
/-- All that is valid, begins at 0 and has these delays is visited. -/
theorem visA_full {L : List Int} (h : errC L = 0) (h0 : gi L 0 = 0) : L ∈ visA (sortZ (dif L)) := by
  unfold visA
  rw [cwV_own h]
  exact vis_own h h0
theorem visA_mem {ds L : List Int} (hd : errD ds = 0) : L ∈ visA ds ↔ errC L = 0 ∧ gi L 0 = 0 ∧ sortZ (dif L) = ds := by
  constructor
  · intro h
    have := visA_sound hd h
    exact ⟨this.1, this.2.1, this.2.2.2⟩
  · rintro ⟨h1, h2, rfl⟩
    exact visA_full h1 h2
theorem mir_zero {L : List Int} (h : 1 ≤ L.length) (h0 : gi L 0 = 0) : gi (mir L) 0 = 0 := by
  rw [mir_gi (by omega)]
  unfold mirE
  rw [h0]
  simp
theorem mir_dif {c : List Int} (h : c.Pairwise (· ≤ ·)) : sortZ (dif (mir c)) = sortZ (dif c) :=
  dif_same (mir_sorted h) h (mir_len c) fun d => ad_mir d c
theorem visA_mir {ds L : List Int} (hd : errD ds = 0) (h : L ∈ visA ds) : mir L ∈ visA ds := by
  obtain ⟨h1, h2, h3⟩ := (visA_mem hd).1 h
  exact (visA_mem hd).2 ⟨errC_mir h1, mir_zero (errC_ok.1 h1).1 h2, by rw [mir_dif (errC_sorted h1)]; exact h3⟩
/-- The first that is visited is normal. -/
theorem first_normal {ds F : List Int} {R : List (List Int)} (hd : errD ds = 0) (h : visA ds = F :: R) : norB F = true := by
  have hF : F ∈ visA ds := by rw [h]; simp
  have hm := visA_mir hd hF
  rw [h] at hm
  unfold norB
  rcases List.mem_cons.1 hm with e | hm
  · rw [e]
    exact bef_all _ _ fun _ _ => rfl
  · have ho := vis_order (cwV ds.length - 1) [0] (tal ds)
    change (visA ds).Pairwise Bf at ho
    rw [h] at ho
    exact ((List.pairwise_cons.1 ho).1 _ hm).bef
/-- What Find answers is what comes first of All; nothing where All has nothing. -/
theorem all_first {ds F : List Int} {R : List (List Int)} (hd : errD ds = 0) (h : visA ds = F :: R) : allV ds = F :: R.filter norB := by
  unfold allV
  rw [if_pos hd]
  change (visA ds).filter norB = _
  rw [h, List.filter_cons, if_pos (first_normal hd h)]
theorem all_none {ds : List Int} (h : visA ds = []) : allV ds = [] := by
  unfold allV
  split
  · change (visA ds).filter norB = _
    rw [h]
    rfl
  · rfl
/-- What All answers: the normal ones with these delays, in order. -/
theorem all_mem {ds L : List Int} (hd : errD ds = 0) : L ∈ allV ds ↔ (errC L = 0 ∧ gi L 0 = 0 ∧ sortZ (dif L) = ds) ∧ norB L = true := by
  unfold allV
  rw [if_pos hd]
  change L ∈ (visA ds).filter norB ↔ _
  rw [List.mem_filter, visA_mem hd]
theorem all_order (ds : List Int) : (allV ds).Pairwise Bf := by
  unfold allV
  split
  · exact (vis_order _ _ _).filter _
  · simp
end Go.Proofs.Ytllfkhcpdgdmnaa

/-
  Plain mathematics on the texts of expressions: a token's text and reading it, words between blanks, and that a text is read back. No program is imported here.
-/
import Derived.Test.YtaogdaoiijmmhaaExprText
namespace Go.Proofs.Ytaogdaoiijmmhaa.Exs

/-- A token: its op and its number. -/
abbrev Token := Int × Int

/-- Whether a token has the form of one. -/
def goodTok (t : Token) : Prop :=
  (t.1 = 1 ∧ -2147483648 ≤ t.2 ∧ t.2 ≤ 2147483647) ∨ ((t.1 = 2 ∨ t.1 = 11) ∧ 0 ≤ t.2 ∧ t.2 ≤ 99) ∨ (3 ≤ t.1 ∧ t.1 ≤ 10 ∧ t.2 = 0)

instance (t : Token) : Decidable (goodTok t) := by unfold goodTok; infer_instance

/-- The word of an op that has one. -/
def word (op : Int) : List UInt8 :=
  if op = 3 then [43] else if op = 4 then [45] else if op = 5 then [42] else if op = 6 then [47] else if op = 7 then [60]
  else if op = 8 then [61] else if op = 9 then [105, 110] else if op = 10 then [114, 101, 99] else []

/-- A number's text with its sign. -/
def intL (n : Int) : List UInt8 := if n < 0 then 45 :: numL (-n).toNat else numL n.toNat

/-- A token's text. -/
def tokL (t : Token) : List UInt8 :=
  if t.1 = 1 then intL t.2 else if t.1 = 2 then 118 :: numL t.2.toNat else if t.1 = 11 then 102 :: numL t.2.toNat else word t.1

/-- The op that a word is of. -/
def opOf (l : List UInt8) : Option Int :=
  if l = [43] then some 3 else if l = [45] then some 4 else if l = [42] then some 5 else if l = [47] then some 6 else if l = [60] then some 7
  else if l = [61] then some 8 else if l = [105, 110] then some 9 else if l = [114, 101, 99] then some 10 else none

/-- What a text that is no word is the token of. -/
def plainTok : List UInt8 → Option Token
  | [] => none
  | b :: r =>
    if b = 118 then (digs r).bind fun n => if n ≤ 99 then some (2, (n : Int)) else none
    else if b = 102 then (digs r).bind fun n => if n ≤ 99 then some (11, (n : Int)) else none
    else if b = 45 then (digs r).bind fun n => if 1 ≤ n ∧ n ≤ 2147483648 then some (1, -(n : Int)) else none
    else (digs (b :: r)).bind fun n => if n ≤ 2147483647 then some (1, (n : Int)) else none

/-- The token that a text is of. -/
def readTok (l : List UInt8) : Option Token := match opOf l with | some op => some (op, 0) | none => plainTok l

theorem opOf_word {op : Int} (h1 : 3 ≤ op) (h2 : op ≤ 10) : opOf (word op) = some op := by
  have h : op = 3 ∨ op = 4 ∨ op = 5 ∨ op = 6 ∨ op = 7 ∨ op = 8 ∨ op = 9 ∨ op = 10 := by omega
  rcases h with rfl | rfl | rfl | rfl | rfl | rfl | rfl | rfl <;> decide

theorem word_opOf {l : List UInt8} {op : Int} (h : opOf l = some op) : word op = l ∧ 3 ≤ op ∧ op ≤ 10 := by
  unfold opOf at h
  repeat' split at h
  all_goals first | (cases h; subst_vars; decide) | cases h

theorem opOf_none {b : UInt8} {r : List UInt8} (h1 : ∀ c ∈ r, isDig c = true) (h2 : r ≠ [] ∨ isDig b = true) (h3 : isDig b = true ∨ b = 45 ∨ b = 118 ∨ b = 102) : opOf (b :: r) = none := by
  cases ho : opOf (b :: r) with
  | none => rfl
  | some op =>
    obtain ⟨e, g1, g2⟩ := word_opOf ho
    exfalso
    have h : op = 3 ∨ op = 4 ∨ op = 5 ∨ op = 6 ∨ op = 7 ∨ op = 8 ∨ op = 9 ∨ op = 10 := by omega
    have d : ∀ {x : UInt8}, x = b → ([] : List UInt8) = r → isDig x = false → False := by
      rintro x rfl rfl hx
      rcases h2 with h2 | h2
      · exact h2 rfl
      · rw [hx] at h2; cases h2
    rcases h with rfl | rfl | rfl | rfl | rfl | rfl | rfl | rfl
    case inr.inr.inr.inr.inr.inr.inl =>
      have e1 : (105 : UInt8) = b := (List.cons.inj e).1
      subst e1; revert h3; decide
    case inr.inr.inr.inr.inr.inr.inr =>
      have e1 : (114 : UInt8) = b := (List.cons.inj e).1
      subst e1; revert h3; decide
    all_goals exact d (List.cons.inj e).1 (List.cons.inj e).2 (by decide)

theorem dig_ne {b : UInt8} (h : isDig b = true) : b ≠ 118 ∧ b ≠ 102 ∧ b ≠ 45 ∧ b ≠ 32 := by
  refine ⟨?_, ?_, ?_, ?_⟩ <;> (rintro rfl; revert h; decide)

theorem numL_ne (n : Nat) : numL n ≠ [] := fun e => by have := numL_length_pos n; rw [e] at this; simp at this

theorem readTok_tokL {t : Token} (h : goodTok t) : readTok (tokL t) = some t := by
  obtain ⟨op, n⟩ := t
  unfold goodTok at h
  simp only at h
  rcases h with ⟨rfl, h1, h2⟩ | ⟨h | h, h1, h2⟩ | ⟨h1, h2, rfl⟩
  · by_cases hn : n < 0
    · have e : tokL (1, n) = 45 :: numL (-n).toNat := by simp [tokL, intL, hn]
      rw [e, readTok, opOf_none (numL_digs _) (.inl (numL_ne _)) (.inr (.inl rfl))]
      show (digs (numL (-n).toNat)).bind _ = _
      rw [digs_numL (by omega), Option.bind_some, if_pos (by omega)]
      congr 2; omega
    · have e : tokL (1, n) = numL n.toNat := by simp [tokL, intL, hn]
      have hd := numL_digs n.toNat
      have hr := digs_numL (n := n.toNat) (by omega)
      rw [e]
      match hq : numL n.toNat, numL_ne n.toNat with
      | b :: r, _ =>
        rw [hq] at hd hr
        have hb := hd b (by simp)
        have hne := dig_ne hb
        rw [readTok, opOf_none (fun c hc => hd c (by simp [hc])) (.inr hb) (.inl hb)]
        show plainTok (b :: r) = _
        rw [plainTok, if_neg hne.1, if_neg hne.2.1, if_neg hne.2.2.1, hr, Option.bind_some, if_pos (by omega)]
        congr 2; omega
  · subst h
    have e : tokL (2, n) = 118 :: numL n.toNat := by simp [tokL]
    rw [e, readTok, opOf_none (numL_digs _) (.inl (numL_ne _)) (.inr (.inr (.inl rfl)))]
    show (digs (numL n.toNat)).bind _ = _
    rw [digs_numL (by omega), Option.bind_some, if_pos (by omega)]
    congr 2; omega
  · subst h
    have e : tokL (11, n) = 102 :: numL n.toNat := by simp [tokL]
    rw [e, readTok, opOf_none (numL_digs _) (.inl (numL_ne _)) (.inr (.inr (.inr rfl)))]
    show (digs (numL n.toNat)).bind _ = _
    rw [digs_numL (by omega), Option.bind_some, if_pos (by omega)]
    congr 2; omega
  · have e : tokL (op, 0) = word op := by simp only [tokL]; rw [if_neg (by omega), if_neg (by omega), if_neg (by omega)]
    rw [e, readTok, opOf_word h1 h2]

theorem readTok_some {l : List UInt8} {t : Token} (h : readTok l = some t) : goodTok t ∧ tokL t = l := by
  rw [readTok] at h
  split at h
  · rename_i op ho
    cases h
    obtain ⟨e, h1, h2⟩ := word_opOf ho
    refine ⟨.inr (.inr ⟨h1, h2, rfl⟩), ?_⟩
    simp only [tokL]; rw [if_neg (by omega), if_neg (by omega), if_neg (by omega), e]
  · match l, h with
    | b :: r, h =>
      rw [plainTok] at h
      by_cases h1 : b = 118
      · rw [if_pos h1] at h; subst h1
        cases hd : digs r with
        | none => rw [hd] at h; cases h
        | some n =>
          rw [hd, Option.bind_some] at h
          split at h
          · cases h
            refine ⟨.inr (.inl ⟨.inl rfl, by simp, by simp; omega⟩), ?_⟩
            simp [tokL, (digs_some hd).1]
          · cases h
      rw [if_neg h1] at h
      by_cases h2 : b = 102
      · rw [if_pos h2] at h; subst h2
        cases hd : digs r with
        | none => rw [hd] at h; cases h
        | some n =>
          rw [hd, Option.bind_some] at h
          split at h
          · cases h
            refine ⟨.inr (.inl ⟨.inr rfl, by simp, by simp; omega⟩), ?_⟩
            simp [tokL, (digs_some hd).1]
          · cases h
      rw [if_neg h2] at h
      by_cases h3 : b = 45
      · rw [if_pos h3] at h; subst h3
        cases hd : digs r with
        | none => rw [hd] at h; cases h
        | some n =>
          rw [hd, Option.bind_some] at h
          split at h
          · rename_i hn
            cases h
            refine ⟨.inl ⟨rfl, by dsimp only; omega, by dsimp only; omega⟩, ?_⟩
            have e : (-(-(n : Int))).toNat = n := by omega
            simp only [tokL, intL, if_true]
            rw [if_pos (by omega), e, (digs_some hd).1]
          · cases h
      rw [if_neg h3] at h
      cases hd : digs (b :: r) with
      | none => rw [hd] at h; cases h
      | some n =>
        rw [hd, Option.bind_some] at h
        split at h
        · cases h
          refine ⟨.inl ⟨rfl, by dsimp only; omega, by dsimp only; omega⟩, ?_⟩
          simp only [tokL, intL, if_true]
          rw [if_neg (by omega), Int.toNat_natCast, (digs_some hd).1]
        · cases h

theorem tokL_blank {t : Token} (h : goodTok t) : (32 : UInt8) ∉ tokL t := by
  have hn : ∀ n, (32 : UInt8) ∉ numL n := fun n hm => (dig_ne (numL_digs n _ hm)).2.2.2 rfl
  obtain ⟨op, n⟩ := t
  unfold goodTok at h
  simp only at h
  rcases h with ⟨rfl, h1, h2⟩ | ⟨h | h, h1, h2⟩ | ⟨h1, h2, rfl⟩
  · by_cases h3 : n < 0
    · have e : tokL (1, n) = 45 :: numL (-n).toNat := by simp [tokL, intL, h3]
      rw [e, List.mem_cons]; rintro (h | h); · revert h; decide
      · exact hn _ h
    · have e : tokL (1, n) = numL n.toNat := by simp [tokL, intL, h3]
      rw [e]; exact hn _
  · subst h
    have e : tokL (2, n) = 118 :: numL n.toNat := by simp [tokL]
    rw [e, List.mem_cons]; rintro (h | h); · revert h; decide
    · exact hn _ h
  · subst h
    have e : tokL (11, n) = 102 :: numL n.toNat := by simp [tokL]
    rw [e, List.mem_cons]; rintro (h | h); · revert h; decide
    · exact hn _ h
  · have h : op = 3 ∨ op = 4 ∨ op = 5 ∨ op = 6 ∨ op = 7 ∨ op = 8 ∨ op = 9 ∨ op = 10 := by omega
    rcases h with rfl | rfl | rfl | rfl | rfl | rfl | rfl | rfl <;> decide

/-- The words between blanks. -/
def splitL : List UInt8 → List (List UInt8)
  | [] => [[]]
  | b :: r => if b = 32 then [] :: splitL r else match splitL r with | [] => [[b]] | w :: ws => (b :: w) :: ws

/-- Words with one blank between. -/
def joinL : List (List UInt8) → List UInt8
  | [] => []
  | [w] => w
  | w :: v :: ws => w ++ 32 :: joinL (v :: ws)

theorem splitL_ne (l : List UInt8) : splitL l ≠ [] := by
  cases l with
  | nil => simp [splitL]
  | cons b r => rw [splitL]; split; · simp
                split <;> simp

theorem joinL_splitL : ∀ l : List UInt8, joinL (splitL l) = l
  | [] => rfl
  | b :: r => by
    have ih := joinL_splitL r
    have hne := splitL_ne r
    rw [splitL]
    split
    · rename_i hb; subst hb
      match hq : splitL r, hne with
      | w :: ws, _ => rw [hq] at ih; rw [joinL, ih]; rfl
    · match hq : splitL r, hne with
      | [w], _ => rw [hq] at ih; show b :: w = _; rw [← ih]; rfl
      | w :: v :: ws, _ => rw [hq] at ih; show b :: (w ++ 32 :: joinL (v :: ws)) = _; rw [← ih]; rfl

theorem splitL_word : ∀ w : List UInt8, (32 : UInt8) ∉ w → splitL w = [w]
  | [], _ => rfl
  | b :: r, h => by
    rw [splitL, if_neg (fun e => h (by simp [e])), splitL_word r (fun e => h (by simp [e]))]

theorem splitL_blank : ∀ (w r : List UInt8), (32 : UInt8) ∉ w → splitL (w ++ 32 :: r) = w :: splitL r
  | [], r, _ => by rw [List.nil_append, splitL, if_pos rfl]
  | b :: w, r, h => by
    rw [List.cons_append, splitL, if_neg (fun e => h (by simp [e])), splitL_blank w r (fun e => h (by simp [e]))]

theorem splitL_joinL : ∀ ws : List (List UInt8), ws ≠ [] → (∀ w ∈ ws, (32 : UInt8) ∉ w) → splitL (joinL ws) = ws
  | [w], _, h => splitL_word w (h w (by simp))
  | w :: v :: ws, _, h => by
    rw [joinL, splitL_blank w _ (h w (by simp)), splitL_joinL (v :: ws) (by simp) (fun x hx => h x (by simp [List.mem_cons.1 hx]))]

/-- An expression's text. -/
def textL (e : List Token) : List UInt8 := joinL (e.map tokL)

/-- The tokens of words, where each word is one. -/
def readAll : List (List UInt8) → Option (List Token)
  | [] => some []
  | w :: ws => match readTok w with | none => none | some t => match readAll ws with | none => none | some e => some (t :: e)

/-- The expression that a text is of. -/
def readL (l : List UInt8) : Option (List Token) :=
  if 200 < l.length then none else match readAll (splitL l) with | none => none | some e => if 12 < e.length then none else some e

theorem readAll_map : ∀ e : List Token, (∀ t ∈ e, goodTok t) → readAll (e.map tokL) = some e
  | [], _ => rfl
  | t :: e, h => by
    rw [List.map_cons, readAll, readTok_tokL (h t (by simp)), readAll_map e (fun x hx => h x (by simp [hx]))]

theorem readAll_some : ∀ (ws : List (List UInt8)) (e : List Token), readAll ws = some e → (∀ t ∈ e, goodTok t) ∧ e.map tokL = ws
  | [], e, h => by cases h; simp
  | w :: ws, e, h => by
    rw [readAll] at h
    cases ht : readTok w with
    | none => rw [ht] at h; cases h
    | some t =>
      rw [ht] at h
      cases hr : readAll ws with
      | none => rw [hr] at h; cases h
      | some f =>
        rw [hr] at h; cases h
        obtain ⟨h1, h2⟩ := readTok_some ht
        obtain ⟨h3, h4⟩ := readAll_some ws f hr
        refine ⟨fun x hx => ?_, by rw [List.map_cons, h2, h4]⟩
        rcases List.mem_cons.1 hx with rfl | hx
        · exact h1
        · exact h3 x hx

theorem readL_textL {e : List Token} (h : ∀ t ∈ e, goodTok t) (h1 : 1 ≤ e.length) (h2 : e.length ≤ 12) (h3 : (textL e).length ≤ 200) : readL (textL e) = some e := by
  rw [readL, if_neg (by omega), textL, splitL_joinL _ (by intro q; have := congrArg List.length q; simp at this; subst this; simp at h1) (by
    intro w hw
    obtain ⟨t, ht, rfl⟩ := List.mem_map.1 hw
    exact tokL_blank (h t ht)), readAll_map e h]
  show (if 12 < e.length then none else some e) = _
  rw [if_neg (by omega)]

theorem readL_some {l : List UInt8} {e : List Token} (h : readL l = some e) : (∀ t ∈ e, goodTok t) ∧ 1 ≤ e.length ∧ e.length ≤ 12 ∧ textL e = l ∧ l.length ≤ 200 := by
  rw [readL] at h
  split at h
  · cases h
  · rename_i hl
    cases hr : readAll (splitL l) with
    | none => rw [hr] at h; cases h
    | some f =>
      rw [hr] at h
      simp only at h
      split at h
      · cases h
      · rename_i hf
        cases h
        obtain ⟨h1, h2⟩ := readAll_some _ _ hr
        refine ⟨h1, ?_, by omega, by rw [textL, h2, joinL_splitL], by omega⟩
        have := congrArg List.length h2
        have h3 := splitL_ne l
        have h4 : (splitL l).length ≠ 0 := fun q => h3 (List.length_eq_zero_iff.1 q)
        simp at this; omega

end Go.Proofs.Ytaogdaoiijmmhaa.Exs

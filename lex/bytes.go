package lex

func isBlank(b byte) bool { return b == '\t' || b == '\n' || b == '\r' || b == ' ' }

func isDigit(b byte) bool { return '0' <= b && b <= '9' }

// isLetter counts _ as a letter: a name may begin with it.
func isLetter(b byte) bool { return 'a' <= b && b <= 'z' || 'A' <= b && b <= 'Z' || b == '_' }

// isInName tells of a byte whether it may stand behind the first one of a name, or of a number.
func isInName(b byte) bool { return isLetter(b) || isDigit(b) }

package lex

func isBlank(r rune) bool { return r == ' ' || r == '\t' || r == '\r' || r == lineEnd }

func isLetter(r rune) bool { return r >= 'a' && r <= 'z' || r >= 'A' && r <= 'Z' || r == '_' }

func isDigit(r rune) bool { return r >= '0' && r <= '9' }

func isHexDigit(r rune) bool { return isDigit(r) || r >= 'a' && r <= 'f' || r >= 'A' && r <= 'F' }

func isSign(r rune) bool { return r == ',' || r == ':' || r == ';' || r == '*' }

func inWord(r rune) bool { return isLetter(r) || isDigit(r) || r == '-' }

func inRun(r rune) bool { return inWord(r) || r == '.' }

func inLine(r rune) bool { return r != lineEnd && r != textEnd }
